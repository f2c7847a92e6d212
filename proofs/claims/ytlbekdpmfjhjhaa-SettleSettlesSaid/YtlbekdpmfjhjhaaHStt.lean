/- SettleSettles, walked (by genStt.py). -/
import Derived.Test.YtlbekdpmfjhjhaaHStu
import Derived.Test.YtlbekdpmfjhjhaaHStr
namespace Go.Proofs.Ytlbekdpmfjhjhaa
open Go.RowKit Go.Shelf
set_option linter.unusedVariables false
set_option linter.unusedSimpArgs false

theorem toldS_any {f FV EV : Int} {l : List Du} {LS : List Sd} {B n : Nat} {w w' : World} {e : Ending} (h : ToldS f l B w w' e) (h1 : (if errS f l = 0 then outS f l else []) = LS) (h2 : (if errS f l = 0 then fundS f l else 0) = FV) (h3 : errS f l = EV) (hn : LS.length = n) :
    ∃ A c, e = .returned (.tuple #[.slice A n c, .int .i64 FV, .int .i64 EV]) ∧ ESd.Rd w' A n LS ∧ Below B w w' := by
  obtain ⟨A, c, a, b, q⟩ := h
  rw [h1, hn] at b
  rw [h1, h2, hn, h3] at a
  exact ⟨A, c, a, b, q⟩
set_option maxRecDepth 100000 in
set_option maxHeartbeats 16000000 in
theorem settles13_all (K : SettleK) (f : Int) (A : Option Addr) (len cap : Nat) (l : List Du) (w : World) (hf : I64 f) (hr : ED.Rd w A len l) (hk : ∀ d, d ∈ l → d.ok) (hl : len ≤ maxLen) (hz : A = none → cap = 0) : Calls Try.prog 3 #[.int .i64 f, .slice A len cap] w fun e w' => e = .returned (.bool true) ∧ Below w.heap.size w w' := by
  have KN := Lib.hid fun W => known13 K W
  have NL := Lib.hid hr.1
  have hl' := hl
  unfold maxLen at hl
  by_cases h2 : 200 < len
  · have d0 : decide (200 < (len : Int)) = true := decide_eq_true (by omega)
    clear hr hk K h2 hl' hz
    go_enter Try.func3, Try.ntmps3
    go_wp2_with fail
    refine (KN.out _).mono ?_; rintro e w8 ⟨rfl, q8⟩
    have Q8 := Lib.hid q8
    clear q8
    go_wp2_with fail
    go_ret
    exact ⟨rfl, Q8.out⟩
  have d0 : decide (200 < (len : Int)) = false := decide_eq_false (by omega)
  have hl2 : len ≤ 200 := by omega
  have HR := Lib.hid fun (W : World) (q : Below w.heap.size w W) => (show ED.Rd W A len l from grd_below hr q (Nat.le_refl _))
  obtain ⟨LS, hLS⟩ : ∃ x, (if errS f l = 0 then outS f l else []) = x := ⟨_, rfl⟩
  obtain ⟨FV, hFV⟩ : ∃ x, (if errS f l = 0 then fundS f l else 0) = x := ⟨_, rfl⟩
  obtain ⟨EV, hEV⟩ : ∃ x, errS f l = x := ⟨_, rfl⟩
  obtain ⟨n, hn⟩ : ∃ n, LS.length = n := ⟨_, rfl⟩
  have nl : n ≤ 64 := by
    rw [← hn, ← hLS]
    by_cases c : errS f l = 0
    · rw [if_pos c, out_len]; exact (may_of c).len
    · rw [if_neg c]; simp
  have OKS : Hid (∀ t, t ∈ LS → t.ok) := Lib.hid fun t ht => by
    rw [← hLS] at ht
    by_cases c : errS f l = 0
    · rw [if_pos c] at ht
      obtain ⟨j, hj⟩ := List.getElem?_of_mem ht
      exact (may_of c).okS hk hj
    · rw [if_neg c] at ht; cases ht
  have TA := Lib.hid fun (B : Nat) (w w' : World) (e : Ending) (h : ToldS f l B w w' e) => toldS_any h hLS hFV hEV hn
  have SE := Lib.hid fun (A' : Option Addr) (c : Nat) (W : World) (r : ED.Rd W A' len l) => K.settle f A' len c l W hf r hk hl'
  have RE := Lib.hid fun (W : World) (r : ED.Rd W A len l) => rsettle13 f A len cap l W hf r hk hl'
  have HK := Lib.hid hk
  obtain ⟨WA, hWA⟩ : ∃ W, w.alloc (.cells #[] 30) = W := ⟨_, rfl⟩
  have OA : Hid (ED.Own 30 WA w.heap.size (.slice (some ⟨w.heap.size, 0, none⟩) 0 0) []) := Lib.hid (by rw [← hWA]; exact gown_new w)
  have BA : Hid (Below w.heap.size w WA) := Lib.hid (by rw [← hWA]; exact below_new _ _)
  have HWA := Lib.hid hWA
  have RA := Lib.hid (HR.out WA BA.out)
  clear K hr hk h2 hl' hLS hFV hEV hn hWA
  go_enter Try.func3, Try.ntmps3
  go_wp2_with (at_builtin; ((try rw [HWA.out]); refine gpl_app TDu rfl (.tmp 17) (.tmp 18) rfl w.heap.size _ [] rfl OA.out A len cap l rfl RA.out hz (by simp; omega) BA.out.size ?_; intro v1 w1 o1 g1 n1; have O1 := Lib.hid o1; have B1 := Lib.hid (BA.out.grown g1 BA.out.size (fun j e => (gown_lt OA.out e).1)); clear o1 g1 n1; obtain ⟨A1, c1, rfl, -⟩ := gown_form O1.out; rw [List.nil_append, NL.out] at O1; rw [List.nil_append, NL.out]))
  refine (SE.out A1 c1 w1 (gown_rd O1.out)).mono ?_; rintro e w2 t2
  obtain ⟨A2, c2, rfl, r2, q2⟩ := TA.out _ _ _ _ t2
  have B2 := Lib.hid (B1.out.trans (q2.mono B1.out.size))
  have R2 := Lib.hid r2
  have O2 := Lib.hid (gown_below O1.out q2)
  clear t2 r2 q2
  go_wp2_with fail
  refine (RE.out w2 (HR.out w2 B2.out)).mono ?_; rintro e w3 t3
  obtain ⟨A3', c3, rfl, r3, q3⟩ := TA.out _ _ _ _ t3
  have B3 := Lib.hid (B2.out.trans (q3.mono B2.out.size))
  have R3 := Lib.hid r3
  have R2' := Lib.hid (grd_below R2.out q3 (Nat.le_refl _))
  have O3 := Lib.hid (gown_below O2.out q3)
  clear t3 r3 q3 SE RE TA
  go_wp2_with fail
  go_loopw [36] (fun i wr => ∃ k : Nat, k ≤ len ∧ i = .int .i64 k ∧ Below w3.heap.size w3 wr) (fun i _ => len - (intOf i).toNat)
  case atStart => exact ⟨0, Nat.zero_le _, rfl, Below.refl _ _⟩
  case round =>
    obtain ⟨k, hk, rfl, hb⟩ := hrel
    have HB := Lib.hid hb
    clear hb
    by_cases hlt : k < len
    case neg =>
      obtain rfl : len = k := by omega
      have SM := Lib.hid (rsame13 A2 A3' n c2 c3 LS wr (grd_below R2'.out HB.out (Nat.le_refl _)) (grd_below R3.out HB.out (Nat.le_refl _)) OKS.out (by unfold maxLen; omega))
      have Q3 := Lib.hid (B3.out.trans (HB.out.mono B3.out.size))
      clear HR O1 O2 O3 R2 R2' R3 OKS
      go_wp2_with fail
      refine SM.out.mono ?_; rintro e w4 ⟨rfl, q4⟩
      have Q4 := Lib.hid (Q3.out.trans (q4.out.mono Q3.out.size))
      clear q4
      go_wp2_with fail
      refine (KN.out _).mono ?_; rintro e w8 ⟨rfl, q8⟩
      have Q8 := Lib.hid (Q4.out.trans (q8.mono Q4.out.size))
      clear q8
      go_wp2_with fail
      go_ret
      exact ⟨rfl, Q8.out⟩
    case pos =>
      have hki : (k : Int) < (len : Int) := by omega
      have hdk : decide ((k : Int) < (len : Int)) = true := decide_eq_true hki
      obtain ⟨d, hd⟩ : ∃ d, l[k]? = some d := ⟨l[k]'(by have := NL.out; omega), List.getElem?_eq_getElem _⟩
      have OKD := Lib.hid (HK.out d (List.mem_of_getElem? hd))
      obtain ⟨b1, o1, rfl, g1⟩ := rng_fr13 (gown_rd O3.out) hd
      obtain ⟨b2, o2, rfl, g2⟩ := rng_fr13 (HR.out w3 B3.out) hd
      have L1 := Lib.hid fun (W : World) (q : Below w3.heap.size w3 W) => (show W.rangeAt b1 (o1 + k * 3) (ED.cells d) from g1 W (Fr.below q))
      have L2 := Lib.hid fun (W : World) (q : Below w3.heap.size w3 W) => (show W.rangeAt b2 (o2 + k * 3) (ED.cells d) from g2 W (Fr.below q))
      have ey := eqDu13_yes d
      clear hd g1 g2 HR O1 O2 O3 R2 R2' R3 OKS KN HK
      go_wp2_with fail
      refine wp_region_held_drew (S := fun U => Below w3.heap.size w3 U) (by kernel_rfl) (HB.out.drew) (fun hH => ?_)
      refine wpAnyH_take (i := 0) (v := .slice (some ⟨b1, o1, none⟩) len c1) rfl (by kernel_rfl) (by kernel_rfl) (by kernel_rfl) (fun _ _ _ h => h) (.inl ⟨by rfl, ?_⟩) (by assumption) ?_
      · intro W hW; go_simp
      try simp only [List.getElem_toArray, List.getElem_cons_zero, Act.put, List.setIfInBounds_toArray, List.set_cons_zero, List.set_cons_succ]
      refine wpAnyH_take (i := 1) (v := .int .i64 k) rfl (by kernel_rfl) (by kernel_rfl) (by kernel_rfl) (fun _ _ _ h => h) (.inl ⟨by rfl, ?_⟩) (by assumption) ?_
      · intro W hW; go_simp
      try simp only [List.getElem_toArray, List.getElem_cons_zero, List.getElem_cons_succ, Act.put, List.setIfInBounds_toArray, List.set_cons_zero, List.set_cons_succ]
      refine wpAnyH_take (i := 2) (v := .pointer (some ⟨b1, o1 + k * 3, none⟩)) rfl (by kernel_rfl) (by kernel_rfl) (by kernel_rfl) (fun _ _ _ h => h) (.inl ⟨by rfl, ?_⟩) (by assumption) ?_
      · intro W hW; go_simp
      try simp only [List.getElem_toArray, List.getElem_cons_zero, List.getElem_cons_succ, Act.put, List.setIfInBounds_toArray, List.set_cons_zero, List.set_cons_succ]
      refine wpAnyH_take (i := 3) (v := .agg (ED.cells d).toArray) rfl (by kernel_rfl) (by kernel_rfl) (by kernel_rfl) (fun _ _ _ h => h) (gyields_load TDu (by rfl) (.tmp 41) rfl b1 (o1 + k * 3) rfl (fun U hU => L1.out U hU)) (by assumption) ?_
      try simp only [List.getElem_toArray, List.getElem_cons_zero, List.getElem_cons_succ, Act.put, List.setIfInBounds_toArray, List.set_cons_zero, List.set_cons_succ]
      refine wpAnyH_take (i := 4) (v := .slice (some ⟨b2, o2, none⟩) len cap) rfl (by kernel_rfl) (by kernel_rfl) (by kernel_rfl) (fun _ _ _ h => h) (.inl ⟨by rfl, ?_⟩) (by assumption) ?_
      · intro W hW; go_simp
      try simp only [List.getElem_toArray, List.getElem_cons_zero, List.getElem_cons_succ, Act.put, List.setIfInBounds_toArray, List.set_cons_zero, List.set_cons_succ]
      refine wpAnyH_take (i := 5) (v := .int .i64 k) rfl (by kernel_rfl) (by kernel_rfl) (by kernel_rfl) (fun _ _ _ h => h) (.inl ⟨by rfl, ?_⟩) (by assumption) ?_
      · intro W hW; go_simp
      try simp only [List.getElem_toArray, List.getElem_cons_zero, List.getElem_cons_succ, Act.put, List.setIfInBounds_toArray, List.set_cons_zero, List.set_cons_succ]
      refine wpAnyH_take (i := 6) (v := .pointer (some ⟨b2, o2 + k * 3, none⟩)) rfl (by kernel_rfl) (by kernel_rfl) (by kernel_rfl) (fun _ _ _ h => h) (.inl ⟨by rfl, ?_⟩) (by assumption) ?_
      · intro W hW; go_simp
      try simp only [List.getElem_toArray, List.getElem_cons_zero, List.getElem_cons_succ, Act.put, List.setIfInBounds_toArray, List.set_cons_zero, List.set_cons_succ]
      refine wpAnyH_take (i := 7) (v := .agg (ED.cells d).toArray) rfl (by kernel_rfl) (by kernel_rfl) (by kernel_rfl) (fun _ _ _ h => h) (gyields_load TDu (by rfl) (.tmp 45) rfl b2 (o2 + k * 3) rfl (fun U hU => L2.out U hU)) (by assumption) ?_
      try simp only [List.getElem_toArray, List.getElem_cons_zero, List.getElem_cons_succ, Act.put, List.setIfInBounds_toArray, List.set_cons_zero, List.set_cons_succ]
      refine wpAnyH_take (i := 8) (v := .bool !(eqDu13 d d)) rfl (by kernel_rfl) (by kernel_rfl) (by kernel_rfl) (fun _ _ _ h => h) (yields_neq_du13 (by rfl) _ _ rfl OKD.out OKD.out rfl rfl) (by assumption) ?_
      try simp only [List.getElem_toArray, List.getElem_cons_zero, List.getElem_cons_succ, Act.put, List.setIfInBounds_toArray, List.set_cons_zero, List.set_cons_succ]
      refine wpAnyH_done (by decide +kernel) ?_ _
      rw [ey]
      go_wp2_with fail
      go_roundw
      case rel => exact ⟨k + 1, hlt, by go_num, hH⟩
      case measure => simp [intOf]; omega
end Go.Proofs.Ytlbekdpmfjhjhaa
