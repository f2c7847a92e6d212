/- TearupParts, walked. -/
import Derived.Test.YtpfhkmppbochnaaHTpr
import Derived.Test.YtpfhkmppbochnaaHTph
namespace Go.Proofs.Ytpfhkmppbochnaa
open Go.RowKit Go.Shelf
set_option linter.unusedVariables false
set_option linter.unusedSimpArgs false

theorem toldP_any {q EV : Int} {l : List Ho} {LS : List Ho} {B n : Nat} {w w' : World} {e : Ending} (h : ToldP q l B w w' e) (h1 : (if errP q l = 0 then outP q l else []) = LS) (h3 : errP q l = EV) (hn : LS.length = n) :
    ∃ A c, e = .returned (.tuple #[.slice A n c, .int .i64 EV]) ∧ EH.Rd w' A n LS ∧ Below B w w' := by
  obtain ⟨A, c, a, b, b'⟩ := h
  rw [h1, hn] at b
  rw [h1, hn, h3] at a
  exact ⟨A, c, a, b, b'⟩
theorem outP_len {q : Int} {l : List Ho} : (outP q l).length ≤ l.length := by
  have h1 : (outP q l).length ≤ (allP q l).length := List.length_filter_le _ _
  rw [allP_len, prt_len, wsP_len] at h1
  have := oppo_len q l
  omega
theorem outP_mem {q : Int} {l : List Ho} {x : Ho} (hx : x ∈ outP q l) : (∃ (t : Nat) (h : Ho), (oppo q l)[t]? = some h ∧ x = mkH h x.q ∧ (prt (mag q) (wsP q l))[t]? = some x.q) ∧ 0 < x.q := by
  obtain ⟨h1, h2⟩ := List.mem_filter.1 hx
  obtain ⟨t, h, n, e1, e2, rfl⟩ := allP_mem h1
  exact ⟨⟨t, h, e1, rfl, e2⟩, of_decide_eq_true h2⟩
theorem MayP.part {q : Int} {l : List Ho} (M : MayP q l) {t : Nat} {h : Ho} {n : Int} (e1 : (oppo q l)[t]? = some h) (e2 : (prt (mag q) (wsP q l))[t]? = some n) : h ∈ l ∧ 0 < opq q h ∧ opq q h ≤ 10000000 ∧ 0 ≤ n ∧ n ≤ opq q h := by
  have hm := List.mem_of_getElem? e1
  obtain ⟨m1, m2⟩ := List.mem_filter.1 hm
  have m3 : 0 < opq q h := of_decide_eq_true m2
  have ht := (List.getElem?_eq_some_iff.1 e1).1
  have k := M.at' (t := t) (by rw [wsP_len]; exact ht)
  have ew : (wsP q l).getD t 0 = opq q h := by unfold wsP; rw [List.getD, List.getElem?_map, e1]; rfl
  rw [ew, List.getD, e2] at k
  exact ⟨m1, m3, (opq_bd (M.ins h m1)).2, k.1, k.2⟩
theorem MayP.outOk {q : Int} {l : List Ho} (M : MayP q l) (hk : ∀ d, d ∈ l → d.ok) : ∀ x, x ∈ outP q l → x.ok ∧ 0 < x.q ∧ x.q ≤ 10000000 := fun x hx => by
  obtain ⟨⟨t, h, e1, e2, e3⟩, h0⟩ := outP_mem hx
  obtain ⟨m1, m2, m3, m4, m5⟩ := M.part e1 e3
  have ha : x.ac = h.ac := by rw [e2]; rfl
  refine ⟨⟨by rw [ha]; exact (hk h m1).ac, by unfold I64; omega⟩, h0, by omega⟩
set_option maxRecDepth 100000 in
set_option maxHeartbeats 16000000 in
theorem parts14_all (K : TearK) (q : Int) (A : Option Addr) (len cap : Nat) (l : List Ho) (w : World) (hf : I64 q) (hr : EH.Rd w A len l) (hk : ∀ d, d ∈ l → d.ok) (hl : len ≤ maxLen) (hz : A = none → cap = 0) : Calls Try.prog 3 #[.int .i64 q, .slice A len cap] w fun e w' => e = .returned (.bool true) ∧ Below w.heap.size w w' := by
  have KN := Lib.hid fun W => known14 K W
  have NL := Lib.hid hr.1
  have hl' := hl
  unfold maxLen at hl
  by_cases h2 : 200 < len
  · have d0 : decide (200 < (len : Int)) = true := decide_eq_true (by omega)
    clear hr hk K h2 hl' hz
    go_enter Try.func3, Try.ntmps3
    go_wp2_with fail
    refine (KN.out _).mono ?_; rintro e w8 ⟨rfl, q8⟩
    have Q8 := Lib.hid q8
    clear q8
    go_wp2_with fail
    go_ret
    exact ⟨rfl, Q8.out⟩
  have d0 : decide (200 < (len : Int)) = false := decide_eq_false (by omega)
  have hl2 : len ≤ 200 := by omega
  have HR := Lib.hid fun (W : World) (b : Below w.heap.size w W) => (show EH.Rd W A len l from grd_below hr b (Nat.le_refl _))
  obtain ⟨LS, hLS⟩ : ∃ x, (if errP q l = 0 then outP q l else []) = x := ⟨_, rfl⟩
  obtain ⟨EV, hEV⟩ : ∃ x, errP q l = x := ⟨_, rfl⟩
  obtain ⟨n, hn⟩ : ∃ n, LS.length = n := ⟨_, rfl⟩
  have nl : n ≤ 200 := by
    rw [← hn, ← hLS]
    by_cases c : errP q l = 0
    · rw [if_pos c]; have := @outP_len q l; have := NL.out; omega
    · rw [if_neg c]; simp
  have OKS : Hid (∀ t, t ∈ LS → t.ok) := Lib.hid fun t ht => by
    rw [← hLS] at ht
    by_cases c : errP q l = 0
    · rw [if_pos c] at ht
      exact ((errP_ok.1 c).outOk hk t ht).1
    · rw [if_neg c] at ht; cases ht
  have TA := Lib.hid fun (B : Nat) (w w' : World) (e : Ending) (h : ToldP q l B w w' e) => toldP_any h hLS hEV hn
  have SE := Lib.hid fun (A' : Option Addr) (c : Nat) (W : World) (r : EH.Rd W A' len l) => K.parts q A' len c l W hf r hk hl'
  have RE := Lib.hid fun (W : World) (r : EH.Rd W A len l) => rparts14 q A len cap l W hf r hk hl'
  have HK := Lib.hid hk
  have ML := Lib.hid hl'
  obtain ⟨WA, hWA⟩ : ∃ W, w.alloc (.cells #[] 32) = W := ⟨_, rfl⟩
  have OA : Hid (EH.Own 32 WA w.heap.size (.slice (some ⟨w.heap.size, 0, none⟩) 0 0) []) := Lib.hid (by rw [← hWA]; exact gown_new w)
  have BA : Hid (Below w.heap.size w WA) := Lib.hid (by rw [← hWA]; exact below_new _ _)
  have HWA := Lib.hid hWA
  have RA := Lib.hid (HR.out WA BA.out)
  clear K hr hk h2 hl' hLS hEV hn hWA
  go_enter Try.func3, Try.ntmps3
  go_wp2_with (at_builtin; ((try rw [HWA.out]); refine gpl_app TH rfl (.tmp 14) (.tmp 15) rfl w.heap.size _ [] rfl OA.out A len cap l rfl RA.out hz (by simp; omega) BA.out.size ?_; intro v1 w1 o1 g1 n1; have O1 := Lib.hid o1; have B1 := Lib.hid (BA.out.grown g1 BA.out.size (fun j e => (gown_lt OA.out e).1)); clear o1 g1 n1; obtain ⟨A1, c1, rfl, -⟩ := gown_form O1.out; rw [List.nil_append, NL.out] at O1; rw [List.nil_append, NL.out]))
  refine (SE.out A1 c1 w1 (gown_rd O1.out)).mono ?_; rintro e w2 t2
  obtain ⟨A2, c2, rfl, r2, q2⟩ := TA.out _ _ _ _ t2
  have B2 := Lib.hid (B1.out.trans (q2.mono B1.out.size))
  have R2 := Lib.hid r2
  have O2 := Lib.hid (gown_below O1.out q2)
  clear t2 r2 q2
  go_wp2_with fail
  refine (RE.out w2 (HR.out w2 B2.out)).mono ?_; rintro e w3 t3
  obtain ⟨A3', c3, rfl, r3, q3⟩ := TA.out _ _ _ _ t3
  have B3 := Lib.hid (B2.out.trans (q3.mono B2.out.size))
  have SM := Lib.hid (rsame14 A2 A3' n c2 c3 LS w3 (grd_below R2.out q3 (Nat.le_refl _)) r3 OKS.out (by unfold maxLen; omega))
  have O3 := Lib.hid (gown_below O2.out q3)
  clear t3 r3 q3 SE RE TA
  go_wp2_with fail
  refine SM.out.mono ?_; rintro e w4 ⟨rfl, q4⟩
  have Q4 := Lib.hid (B3.out.trans (q4.out.mono B3.out.size))
  have S2 := Lib.hid (rsame14 A1 A len c1 cap l w4 (grd_below (gown_rd O3.out) q4.out (Nat.le_refl _)) (HR.out w4 Q4.out) HK.out ML.out)
  clear q4 SM
  go_wp2_with fail
  refine S2.out.mono ?_; rintro e w5 ⟨rfl, q5⟩
  have Q5 := Lib.hid (Q4.out.trans (q5.out.mono Q4.out.size))
  clear q5 S2
  go_wp2_with fail
  refine (KN.out _).mono ?_; rintro e w8 ⟨rfl, q8⟩
  have Q8 := Lib.hid (Q5.out.trans (q8.mono Q5.out.size))
  clear q8
  go_wp2_with fail
  go_ret
  exact ⟨rfl, Q8.out⟩
end Go.Proofs.Ytpfhkmppbochnaa
