/- TearupTurned, walked (by genTpt.py). -/
import Derived.Test.YtpfhkmppbochnaaHTpp
namespace Go.Proofs.Ytpfhkmppbochnaa
open Go.RowKit Go.Shelf
set_option linter.unusedVariables false
set_option linter.unusedSimpArgs false

def tuH (h : Ho) : Ho := ⟨h.ac, -h.q⟩
theorem opq_tu {q : Int} (hq : q ≠ 0) (h : Ho) : opq (-q) (tuH h) = opq q h := by
  unfold opq tuH
  by_cases c : 0 < q
  · rw [if_neg (by omega), if_pos c]
  · rw [if_pos (by omega), if_neg c]; simp
theorem oppo_tu {q : Int} (hq : q ≠ 0) (l : List Ho) : oppo (-q) (l.map tuH) = (oppo q l).map tuH := by
  unfold oppo
  rw [List.filter_map]
  congr 1
  refine List.filter_congr fun x _ => ?_
  show decide (0 < opq (-q) (tuH x)) = decide (0 < opq q x)
  rw [opq_tu hq]
theorem wsP_tu {q : Int} (hq : q ≠ 0) (l : List Ho) : wsP (-q) (l.map tuH) = wsP q l := by
  unfold wsP
  rw [oppo_tu hq, List.map_map]
  exact List.map_congr_left fun x _ => opq_tu hq x
theorem mag_tu (q : Int) : mag (-q) = mag q := by unfold mag; split <;> split <;> omega
theorem risH_tu : ∀ (l : List Ho) (a : Int), risH a (l.map tuH) = risH a l
  | [], _ => rfl
  | d :: l, a => by
    have ih := risH_tu l d.ac
    have e : hoB a (tuH d) = hoB a d := decide_eq_decide.2 ⟨fun h => by have : (tuH d).q = -d.q := rfl; have : (tuH d).ac = d.ac := rfl; omega, fun h => by have : (tuH d).q = -d.q := rfl; have : (tuH d).ac = d.ac := rfl; omega⟩
    simp only [List.map_cons, risH, e]
    rw [show (tuH d).ac = d.ac from rfl, ih]
theorem outP_tu {q : Int} (hq : q ≠ 0) (l : List Ho) : outP (-q) (l.map tuH) = outP q l := by
  unfold outP allP
  rw [oppo_tu hq, wsP_tu hq, mag_tu, List.zipWith_map_left]
  rfl
theorem errP_tu (q : Int) (l : List Ho) : errP (-q) (l.map tuH) = errP q l := by
  unfold errP
  rw [List.length_map, risH_tu]
  by_cases c : q = 0
  · subst c; simp
  · rw [wsP_tu c, mag_tu, if_neg c, if_neg (show ¬ -q = 0 by omega)]
    by_cases b : -10000000 ≤ q ∧ q ≤ 10000000
    · have b' : -10000000 ≤ -q ∧ -q ≤ 10000000 := by omega
      rw [if_neg (show ¬ ¬ (-10000000 ≤ q ∧ q ≤ 10000000) from fun h => h b), if_neg (show ¬ ¬ (-10000000 ≤ -q ∧ -q ≤ 10000000) from fun h => h b')]
    · rw [if_pos b, if_pos (show ¬ (-10000000 ≤ -q ∧ -q ≤ 10000000) by omega)]
theorem tell_tu (q : Int) (l : List Ho) : (if errP (-q) (l.map tuH) = 0 then outP (-q) (l.map tuH) else []) = if errP q l = 0 then outP q l else [] := by
  rw [errP_tu]
  by_cases c : errP q l = 0
  · rw [if_pos c, if_pos c, outP_tu (errP_ok.1 c).nz]
  · rw [if_neg c, if_neg c]
set_option maxRecDepth 100000 in
set_option maxHeartbeats 16000000 in
theorem turned14_all (K : TearK) (q : Int) (A : Option Addr) (len cap : Nat) (l : List Ho) (w : World) (hf : I64 q) (hr : EH.Rd w A len l) (hk : ∀ d, d ∈ l → d.ok) (hl : len ≤ maxLen) : Calls Try.prog 5 #[.int .i64 q, .slice A len cap] w fun e w' => e = .returned (.bool true) ∧ Below w.heap.size w w' := by
  have KN := Lib.hid fun W => known14 K W
  have NL := Lib.hid hr.1
  have hl' := hl
  unfold maxLen at hl
  unfold I64 at hf
  have hs : (len ≤ 200 ∧ -10000000 ≤ q ∧ q ≤ 10000000) ∨ (200 < len ∨ q < -10000000 ∨ 10000000 < q) := by omega
  rcases hs with ok | bad
  rotate_left
  · clear K hr hk hl'
    go_enter Try.func5, Try.ntmps5
    by_cases c1 : 200 < len
    · have d1 : decide (200 < (len : Int)) = true := decide_eq_true (by omega)
      clear bad
      go_wp2_with fail
      refine (KN.out _).mono ?_; rintro e w8 ⟨rfl, q8⟩
      have Q8 := Lib.hid q8
      clear q8
      go_wp2_with fail
      go_ret
      exact ⟨rfl, Q8.out⟩
    have d1 : decide (200 < (len : Int)) = false := decide_eq_false (by omega)
    by_cases c2 : q < -10000000
    · have d2 : decide (q < -10000000) = true := decide_eq_true c2
      clear bad
      go_wp2_with fail
      refine (KN.out _).mono ?_; rintro e w8 ⟨rfl, q8⟩
      have Q8 := Lib.hid q8
      clear q8
      go_wp2_with fail
      go_ret
      exact ⟨rfl, Q8.out⟩
    have d2 : decide (q < -10000000) = false := decide_eq_false c2
    have d3 : decide (10000000 < q) = true := decide_eq_true (by omega)
    clear bad
    go_wp2_with fail
    refine (KN.out _).mono ?_; rintro e w8 ⟨rfl, q8⟩
    have Q8 := Lib.hid q8
    clear q8
    go_wp2_with fail
    go_ret
    exact ⟨rfl, Q8.out⟩
  obtain ⟨hl2, q1, q2⟩ := ok
  have d1 : decide (200 < (len : Int)) = false := decide_eq_false (by omega)
  have d2 : decide (q < -10000000) = false := decide_eq_false (by omega)
  have d3 : decide (10000000 < q) = false := decide_eq_false (by omega)
  have HR := Lib.hid fun (W : World) (b : Below w.heap.size w W) => (show EH.Rd W A len l from grd_below hr b (Nat.le_refl _))
  obtain ⟨LS, hLS⟩ : ∃ x, (if errP q l = 0 then outP q l else []) = x := ⟨_, rfl⟩
  obtain ⟨EV, hEV⟩ : ∃ x, errP q l = x := ⟨_, rfl⟩
  obtain ⟨n, hn⟩ : ∃ n, LS.length = n := ⟨_, rfl⟩
  have nl : n ≤ 200 := by
    rw [← hn, ← hLS]
    by_cases c : errP q l = 0
    · rw [if_pos c]; have := @outP_len q l; have := NL.out; omega
    · rw [if_neg c]; simp
  have OKS : Hid (∀ t, t ∈ LS → t.ok) := Lib.hid fun t ht => by
    rw [← hLS] at ht
    by_cases c : errP q l = 0
    · rw [if_pos c] at ht
      exact ((errP_ok.1 c).outOk hk t ht).1
    · rw [if_neg c] at ht; cases ht
  have TA := Lib.hid fun (B : Nat) (w w' : World) (e : Ending) (h : ToldP q l B w w' e) => toldP_any h hLS hEV hn
  have TB := Lib.hid fun (B : Nat) (w w' : World) (e : Ending) (h : ToldP (-q) (l.map tuH) B w w' e) => toldP_any h ((tell_tu q l).trans hLS) ((errP_tu q l).trans hEV) hn
  have SE := Lib.hid fun (W : World) (r : EH.Rd W A len l) => K.parts q A len cap l W (by unfold I64; omega) r hk hl'
  have SB := Lib.hid fun (A' : Option Addr) (c : Nat) (W : World) (r : EH.Rd W A' len (l.map tuH)) (hb : ∀ d, d ∈ l → -10000000 ≤ d.q ∧ d.q ≤ 10000000) => K.parts (-q) A' len c (l.map tuH) W (by unfold I64; omega) r (fun d hd => by
    obtain ⟨x, hx, rfl⟩ := List.mem_map.1 hd
    have := hb x hx
    exact ⟨(hk x hx).ac, by show I64 (-x.q); unfold I64; omega⟩) hl'
  have HK := Lib.hid hk
  clear K hr hk hl' hLS hEV hn
  go_enter Try.func5, Try.ntmps5
  go_wp2_with fail
  go_loopw [5, 26] (fun va' i wr => ∃ (k : Nat) (va : Value), k ≤ len ∧ i = .int .i64 k ∧ va = va' ∧ EH.Own 32 wr w.heap.size va ((l.take k).map tuH) ∧ (∀ d, d ∈ l.take k → -10000000 ≤ d.q ∧ d.q ≤ 10000000) ∧ Below w.heap.size w wr) (fun _ i _ => len - (intOf i).toNat)
  case atStart => exact ⟨0, _, Nat.zero_le _, rfl, rfl, gown_nil _ _, (fun d hd => by simp at hd), Below.refl _ _⟩
  case round =>
    obtain ⟨k, va, hk, rfl, rfl, oa, bb, hb⟩ := hrel
    have OA := Lib.hid oa
    have BB := Lib.hid bb
    have HB := Lib.hid hb
    clear oa bb hb
    by_cases hlt : k < len
    case pos =>
      have hki : (k : Int) < (len : Int) := by omega
      have hdk : decide ((k : Int) < (len : Int)) = true := decide_eq_true hki
      obtain ⟨d, hd⟩ : ∃ d, l[k]? = some d := ⟨l[k]'(by have := NL.out; omega), List.getElem?_eq_getElem _⟩
      have i3 : -9223372036854775808 ≤ d.q ∧ d.q ≤ 9223372036854775807 := (HK.out d (List.mem_of_getElem? hd)).q
      obtain ⟨b, o, rfl, -⟩ := grd_rng (HR.out wr HB.out) hd
      have LR := Lib.hid fun (W : World) (b' : Below w.heap.size w W) => (show W.rangeAt b (o + k * 2) (EH.cells d) by
        obtain ⟨b2, o2, e2, r2⟩ := grd_rng (HR.out W b') hd
        cases e2
        exact r2)
      have C0 := Lib.hid fun (W : World) (b' : Below w.heap.size w W) => (show W.cell? ⟨b, o + k * 2, none⟩ = some (.int .u32 d.ac) from LR.out W b' 0 _ rfl)
      have C1 := Lib.hid fun (W : World) (b' : Below w.heap.size w W) => (show W.cell? ⟨b, o + k * 2 + 1, none⟩ = some (.int .i64 d.q) from LR.out W b' 1 _ rfl)
      have c1 := C1.out wr HB.out
      have SN : Hid ((l.take (k + 1)).map tuH = (l.take k).map tuH ++ [tuH d]) := Lib.hid (by rw [take_s14 hd, List.map_append]; rfl)
      have SB9 : Hid (-10000000 ≤ d.q ∧ d.q ≤ 10000000 → ∀ x, x ∈ l.take (k + 1) → -10000000 ≤ x.q ∧ x.q ≤ 10000000) := Lib.hid fun h x hx => by
        rw [take_s14 hd] at hx
        rcases List.mem_append.1 hx with h1 | h1
        · exact BB.out x h1
        · simp only [List.mem_cons, List.not_mem_nil, or_false] at h1; rw [h1]; exact h
      have LO : Hid (((l.take k).map tuH).length + 1 ≤ 100000) := Lib.hid (by rw [List.length_map, List.length_take]; omega)
      clear hd
      by_cases b1 : d.q < -10000000
      · have e1 : decide (d.q < -10000000) = true := decide_eq_true b1
        clear SN SB9 LO OA
        go_wp2_with fail
        refine (KN.out _).mono ?_; rintro e w8 ⟨rfl, q8⟩
        have Q8 := Lib.hid (HB.out.trans (q8.mono HB.out.size))
        clear q8
        go_wp2_with fail
        go_ret
        exact ⟨rfl, Q8.out⟩
      have e1 : decide (d.q < -10000000) = false := decide_eq_false b1
      by_cases b2 : 10000000 < d.q
      · have e2 : decide (10000000 < d.q) = true := decide_eq_true b2
        clear SN SB9 LO OA
        go_wp2_with fail
        refine (KN.out _).mono ?_; rintro e w8 ⟨rfl, q8⟩
        have Q8 := Lib.hid (HB.out.trans (q8.mono HB.out.size))
        clear q8
        go_wp2_with fail
        go_ret
        exact ⟨rfl, Q8.out⟩
      have e2 : decide (10000000 < d.q) = false := decide_eq_false b2
      have N9 := Lib.hid (SB9.out (by omega))
      clear SB9
      go_wp2_with fail
      refine wp_region_held_drew (S := fun U => Below w.heap.size w U) (by kernel_rfl) (HB.out.drew) (fun hH => ?_)
      refine wpAnyH_take (i := 0) (v := va) rfl (by kernel_rfl) (by kernel_rfl) (by kernel_rfl) (fun _ _ _ h => h) (.inl ⟨by rfl, ?_⟩) (by assumption) ?_
      · intro W hW; go_simp
      try simp only [List.getElem_toArray, List.getElem_cons_zero, Act.put, List.setIfInBounds_toArray, List.set_cons_zero, List.set_cons_succ]
      refine wpAnyH_take (i := 1) (v := .slice (some ⟨b, o, none⟩) len cap) rfl (by kernel_rfl) (by kernel_rfl) (by kernel_rfl) (fun _ _ _ h => h) (.inl ⟨by rfl, ?_⟩) (by assumption) ?_
      · intro W hW; go_simp
      try simp only [List.getElem_toArray, List.getElem_cons_zero, List.getElem_cons_succ, Act.put, List.setIfInBounds_toArray, List.set_cons_zero, List.set_cons_succ]
      refine wpAnyH_take (i := 2) (v := .int .i64 k) rfl (by kernel_rfl) (by kernel_rfl) (by kernel_rfl) (fun _ _ _ h => h) (.inl ⟨by rfl, ?_⟩) (by assumption) ?_
      · intro W hW; go_simp
      try simp only [List.getElem_toArray, List.getElem_cons_zero, List.getElem_cons_succ, Act.put, List.setIfInBounds_toArray, List.set_cons_zero, List.set_cons_succ]
      refine wpAnyH_take (i := 3) (v := .pointer (some ⟨b, o + k * 2, none⟩)) rfl (by kernel_rfl) (by kernel_rfl) (by kernel_rfl) (fun _ _ _ h => h) (.inl ⟨by rfl, ?_⟩) (by assumption) ?_
      · intro W hW; go_simp
      try simp only [List.getElem_toArray, List.getElem_cons_zero, List.getElem_cons_succ, Act.put, List.setIfInBounds_toArray, List.set_cons_zero, List.set_cons_succ]
      refine wpAnyH_take (i := 4) (v := .pointer (some ⟨b, o + k * 2, none⟩)) rfl (by kernel_rfl) (by kernel_rfl) (by kernel_rfl) (fun _ _ _ h => h) (.inl ⟨by rfl, ?_⟩) (by assumption) ?_
      · intro W hW; go_simp
      try simp only [List.getElem_toArray, List.getElem_cons_zero, List.getElem_cons_succ, Act.put, List.setIfInBounds_toArray, List.set_cons_zero, List.set_cons_succ]
      refine wpAnyH_take (i := 5) (v := .int .u32 d.ac) rfl (by kernel_rfl) (by kernel_rfl) (by kernel_rfl) (fun _ _ _ h => h) (.inl ⟨by rfl, ?_⟩) (by assumption) ?_
      · intro W hW; have cc := C0.out W hW; go_simp
      try simp only [List.getElem_toArray, List.getElem_cons_zero, List.getElem_cons_succ, Act.put, List.setIfInBounds_toArray, List.set_cons_zero, List.set_cons_succ]
      refine wpAnyH_take (i := 6) (v := .slice (some ⟨b, o, none⟩) len cap) rfl (by kernel_rfl) (by kernel_rfl) (by kernel_rfl) (fun _ _ _ h => h) (.inl ⟨by rfl, ?_⟩) (by assumption) ?_
      · intro W hW; go_simp
      try simp only [List.getElem_toArray, List.getElem_cons_zero, List.getElem_cons_succ, Act.put, List.setIfInBounds_toArray, List.set_cons_zero, List.set_cons_succ]
      refine wpAnyH_take (i := 7) (v := .int .i64 k) rfl (by kernel_rfl) (by kernel_rfl) (by kernel_rfl) (fun _ _ _ h => h) (.inl ⟨by rfl, ?_⟩) (by assumption) ?_
      · intro W hW; go_simp
      try simp only [List.getElem_toArray, List.getElem_cons_zero, List.getElem_cons_succ, Act.put, List.setIfInBounds_toArray, List.set_cons_zero, List.set_cons_succ]
      refine wpAnyH_take (i := 8) (v := .pointer (some ⟨b, o + k * 2, none⟩)) rfl (by kernel_rfl) (by kernel_rfl) (by kernel_rfl) (fun _ _ _ h => h) (.inl ⟨by rfl, ?_⟩) (by assumption) ?_
      · intro W hW; go_simp
      try simp only [List.getElem_toArray, List.getElem_cons_zero, List.getElem_cons_succ, Act.put, List.setIfInBounds_toArray, List.set_cons_zero, List.set_cons_succ]
      refine wpAnyH_take (i := 9) (v := .pointer (some ⟨b, o + k * 2 + 1, none⟩)) rfl (by kernel_rfl) (by kernel_rfl) (by kernel_rfl) (fun _ _ _ h => h) (.inl ⟨by rfl, ?_⟩) (by assumption) ?_
      · intro W hW; go_simp
      try simp only [List.getElem_toArray, List.getElem_cons_zero, List.getElem_cons_succ, Act.put, List.setIfInBounds_toArray, List.set_cons_zero, List.set_cons_succ]
      refine wpAnyH_take (i := 10) (v := .int .i64 d.q) rfl (by kernel_rfl) (by kernel_rfl) (by kernel_rfl) (fun _ _ _ h => h) (.inl ⟨by rfl, ?_⟩) (by assumption) ?_
      · intro W hW; have cc := C1.out W hW; go_simp
      try simp only [List.getElem_toArray, List.getElem_cons_zero, List.getElem_cons_succ, Act.put, List.setIfInBounds_toArray, List.set_cons_zero, List.set_cons_succ]
      refine wpAnyH_take (i := 11) (v := .int .i64 (-d.q)) rfl (by kernel_rfl) (by kernel_rfl) (by kernel_rfl) (fun _ _ _ h => h) (.inl ⟨by rfl, ?_⟩) (by assumption) ?_
      · intro W hW; go_simp; rw [IntKind.wrap_i64]; omega
      try simp only [List.getElem_toArray, List.getElem_cons_zero, List.getElem_cons_succ, Act.put, List.setIfInBounds_toArray, List.set_cons_zero, List.set_cons_succ]
      refine wpAnyH_take (i := 12) (v := .agg (EH.cells ⟨d.ac, -d.q⟩).toArray) rfl (by kernel_rfl) (by kernel_rfl) (by kernel_rfl) (fun _ _ _ h => h) (yields_build_ho14 (by rfl) (.tmp 49) (.tmp 55) rfl rfl rfl) (by assumption) ?_
      try simp only [List.getElem_toArray, List.getElem_cons_zero, List.getElem_cons_succ, Act.put, List.setIfInBounds_toArray, List.set_cons_zero, List.set_cons_succ]
      refine wpAnyH_ready (rs := [13]) (by decide +kernel) (by simp) (AllReadyH.cons rfl (fun KQ hK => ?_) AllReadyH.nil)
      rw [if_pos (by rfl)]
      refine gwp_bs TH rfl (s := ⟨d.ac, -d.q⟩) rfl (fill_ho _) ?_ (by decide)
      obtain ⟨V1, hV1⟩ : ∃ V, wr.drew.alloc (.cells (EH.cells ⟨d.ac, -d.q⟩).toArray 32) = V := ⟨_, rfl⟩
      have X1 : Hid (EH.Bx 32 V1 wr.drew.heap.size ⟨d.ac, -d.q⟩) := Lib.hid (by rw [← hV1]; exact gbx_new wr.drew _)
      have H1 : Hid (Below w.heap.size w V1) := Lib.hid (by rw [← hV1]; exact hH.alloc hH.size _)
      have O1 : Hid (EH.Own 32 V1 w.heap.size va ((l.take k).map tuH)) := Lib.hid (by rw [← hV1]; exact gown_below (gown_same (W := wr.drew) OA.out fun _ _ => rfl) (below_new _ _))
      rw [hV1]
      refine hK.out _ _ H1.out (fun _ => ?_)
      clear hK hV1
      try simp only [List.getElem_toArray, List.getElem_cons_zero, List.getElem_cons_succ, Act.put, List.setIfInBounds_toArray, List.set_cons_zero, List.set_cons_succ]
      refine wpAnyH_ready (rs := [14]) (by decide +kernel) (by simp) (AllReadyH.cons rfl (fun KQ hK => ?_) AllReadyH.nil)
      rw [if_pos (by rfl)]
      refine gwp_app TH (.tmp 44) (.tmp 57) rfl w.heap.size va _ rfl O1.out (some ⟨wr.drew.heap.size, 0, none⟩) 1 1 [⟨d.ac, -d.q⟩] rfl (gbx_rd X1.out) (fun e => by cases e) LO.out H1.out.size ?_
      intro v9 w9 o9 g9 n9
      have B9 := Lib.hid (H1.out.grown g9 H1.out.size (fun j e => (gown_lt O1.out e).1))
      have O9 : Hid (EH.Own 32 w9 w.heap.size v9 ((l.take (k + 1)).map tuH)) := Lib.hid (by rw [SN.out]; exact o9)
      clear o9 g9 n9
      refine hK.out _ _ B9.out (fun _ => ?_)
      clear hK
      try simp only [List.getElem_toArray, List.getElem_cons_zero, List.getElem_cons_succ, Act.put, List.setIfInBounds_toArray, List.set_cons_zero, List.set_cons_succ]
      refine wpAnyH_take (i := 15) (v := v9) rfl (by kernel_rfl) (by kernel_rfl) (by kernel_rfl) (fun _ _ _ h => h) (.inl ⟨by rfl, ?_⟩) (by assumption) ?_
      · intro W hW; go_simp
      try simp only [List.getElem_toArray, List.getElem_cons_zero, List.getElem_cons_succ, Act.put, List.setIfInBounds_toArray, List.set_cons_zero, List.set_cons_succ]
      refine wpAnyH_done (by decide +kernel) ?_ _
      go_wp2_with fail
      go_roundw
      case rel => exact ⟨k + 1, v9, hlt, by go_num, rfl, O9.out, N9.out, B9.out⟩
      case measure => simp [intOf]; omega
    case neg =>
      obtain rfl : len = k := by omega
      have et : l.take len = l := List.take_of_length_le (by rw [NL.out]; exact Nat.le_refl _)
      rw [et] at OA BB
      obtain ⟨Aa, ca, rfl, -⟩ := gown_form OA.out
      have lm : (l.map tuH).length = len := by rw [List.length_map]; exact NL.out
      rw [lm] at OA ⊢
      have S1 := Lib.hid (SE.out wr (HR.out wr HB.out))
      have S2 := Lib.hid fun (W : World) (b' : Below wr.heap.size wr W) => SB.out Aa ca W (grd_below (gown_rd OA.out) b' (Nat.le_refl _)) BB.out
      clear et lm SE SB BB
      go_wp2_with fail
      refine S1.out.mono ?_; rintro e w2 t2
      obtain ⟨A2, c2, rfl, r2, q2'⟩ := TA.out _ _ _ _ t2
      have S3 := Lib.hid (S2.out w2 q2')
      have B2 := Lib.hid (HB.out.trans (q2'.mono HB.out.size))
      have R2 := Lib.hid r2
      clear t2 r2 q2' S1 S2 OA
      go_wp2_with fail
      refine S3.out.mono ?_; rintro e w3 t3
      obtain ⟨A3', c3, rfl, r3, q3'⟩ := TB.out _ _ _ _ t3
      have B3 := Lib.hid (B2.out.trans (q3'.mono B2.out.size))
      have R3 := Lib.hid r3
      have R2' := Lib.hid (grd_below R2.out q3' (Nat.le_refl _))
      clear t3 r3 q3' S3 R2
      go_wp2_with fail
      go_loopw [85] (fun i wx => ∃ j : Nat, j ≤ n ∧ i = .int .i64 j ∧ Below w3.heap.size w3 wx) (fun i _ => n - (intOf i).toNat)
      case atStart => exact ⟨0, Nat.zero_le _, rfl, Below.refl _ _⟩
      case round =>
        obtain ⟨j, hj, rfl, hb2⟩ := hrel
        have HB2 := Lib.hid hb2
        clear hb2
        by_cases hlt2 : j < n
        case neg =>
          obtain rfl : n = j := by omega
          have Q3 := Lib.hid (B3.out.trans (HB2.out.mono B3.out.size))
          go_wp2_with fail
          refine (KN.out _).mono ?_; rintro e w8 ⟨rfl, q8⟩
          have Q8 := Lib.hid (Q3.out.trans (q8.mono Q3.out.size))
          clear q8
          go_wp2_with fail
          go_ret
          exact ⟨rfl, Q8.out⟩
        case pos =>
          have hji : (j : Int) < (n : Int) := by omega
          have hdj : decide ((j : Int) < (n : Int)) = true := decide_eq_true hji
          have ll := R2'.out.1
          obtain ⟨x, hx⟩ : ∃ x, LS[j]? = some x := ⟨LS[j]'(by omega), List.getElem?_eq_getElem _⟩
          have OKX := Lib.hid (OKS.out x (List.mem_of_getElem? hx))
          obtain ⟨b1, o1, rfl, g1⟩ := rng_fr14 R2'.out hx
          obtain ⟨b2, o2, rfl, g2⟩ := rng_fr14 R3.out hx
          have L1 := Lib.hid fun (W : World) (b' : Below w3.heap.size w3 W) => (show W.rangeAt b1 (o1 + j * 2) (EH.cells x) from g1 W (Fr.below b'))
          have L2 := Lib.hid fun (W : World) (b' : Below w3.heap.size w3 W) => (show W.rangeAt b2 (o2 + j * 2) (EH.cells x) from g2 W (Fr.below b'))
          have ey := eqHo14_yes x
          clear hx g1 g2 ll R2' R3 OKS KN HK HR TA TB
          go_wp2_with fail
          refine wp_region_held_drew (S := fun U => Below w3.heap.size w3 U) (by kernel_rfl) (HB2.out.drew) (fun hH => ?_)
          refine wpAnyH_take (i := 0) (v := .slice (some ⟨b1, o1, none⟩) n c2) rfl (by kernel_rfl) (by kernel_rfl) (by kernel_rfl) (fun _ _ _ h => h) (.inl ⟨by rfl, ?_⟩) (by assumption) ?_
          · intro W hW; go_simp
          try simp only [List.getElem_toArray, List.getElem_cons_zero, Act.put, List.setIfInBounds_toArray, List.set_cons_zero, List.set_cons_succ]
          refine wpAnyH_take (i := 1) (v := .int .i64 j) rfl (by kernel_rfl) (by kernel_rfl) (by kernel_rfl) (fun _ _ _ h => h) (.inl ⟨by rfl, ?_⟩) (by assumption) ?_
          · intro W hW; go_simp
          try simp only [List.getElem_toArray, List.getElem_cons_zero, List.getElem_cons_succ, Act.put, List.setIfInBounds_toArray, List.set_cons_zero, List.set_cons_succ]
          refine wpAnyH_take (i := 2) (v := .pointer (some ⟨b1, o1 + j * 2, none⟩)) rfl (by kernel_rfl) (by kernel_rfl) (by kernel_rfl) (fun _ _ _ h => h) (.inl ⟨by rfl, ?_⟩) (by assumption) ?_
          · intro W hW; go_simp
          try simp only [List.getElem_toArray, List.getElem_cons_zero, List.getElem_cons_succ, Act.put, List.setIfInBounds_toArray, List.set_cons_zero, List.set_cons_succ]
          refine wpAnyH_take (i := 3) (v := .agg (EH.cells x).toArray) rfl (by kernel_rfl) (by kernel_rfl) (by kernel_rfl) (fun _ _ _ h => h) (gyields_load TH (by rfl) (.tmp 90) rfl b1 (o1 + j * 2) rfl (fun U hU => L1.out U hU)) (by assumption) ?_
          try simp only [List.getElem_toArray, List.getElem_cons_zero, List.getElem_cons_succ, Act.put, List.setIfInBounds_toArray, List.set_cons_zero, List.set_cons_succ]
          refine wpAnyH_take (i := 4) (v := .slice (some ⟨b2, o2, none⟩) n c3) rfl (by kernel_rfl) (by kernel_rfl) (by kernel_rfl) (fun _ _ _ h => h) (.inl ⟨by rfl, ?_⟩) (by assumption) ?_
          · intro W hW; go_simp
          try simp only [List.getElem_toArray, List.getElem_cons_zero, List.getElem_cons_succ, Act.put, List.setIfInBounds_toArray, List.set_cons_zero, List.set_cons_succ]
          refine wpAnyH_take (i := 5) (v := .int .i64 j) rfl (by kernel_rfl) (by kernel_rfl) (by kernel_rfl) (fun _ _ _ h => h) (.inl ⟨by rfl, ?_⟩) (by assumption) ?_
          · intro W hW; go_simp
          try simp only [List.getElem_toArray, List.getElem_cons_zero, List.getElem_cons_succ, Act.put, List.setIfInBounds_toArray, List.set_cons_zero, List.set_cons_succ]
          refine wpAnyH_take (i := 6) (v := .pointer (some ⟨b2, o2 + j * 2, none⟩)) rfl (by kernel_rfl) (by kernel_rfl) (by kernel_rfl) (fun _ _ _ h => h) (.inl ⟨by rfl, ?_⟩) (by assumption) ?_
          · intro W hW; go_simp
          try simp only [List.getElem_toArray, List.getElem_cons_zero, List.getElem_cons_succ, Act.put, List.setIfInBounds_toArray, List.set_cons_zero, List.set_cons_succ]
          refine wpAnyH_take (i := 7) (v := .agg (EH.cells x).toArray) rfl (by kernel_rfl) (by kernel_rfl) (by kernel_rfl) (fun _ _ _ h => h) (gyields_load TH (by rfl) (.tmp 94) rfl b2 (o2 + j * 2) rfl (fun U hU => L2.out U hU)) (by assumption) ?_
          try simp only [List.getElem_toArray, List.getElem_cons_zero, List.getElem_cons_succ, Act.put, List.setIfInBounds_toArray, List.set_cons_zero, List.set_cons_succ]
          refine wpAnyH_take (i := 8) (v := .bool !(eqHo14 x x)) rfl (by kernel_rfl) (by kernel_rfl) (by kernel_rfl) (fun _ _ _ h => h) (yields_neq_ho14 (by rfl) _ _ rfl OKX.out OKX.out rfl rfl) (by assumption) ?_
          try simp only [List.getElem_toArray, List.getElem_cons_zero, List.getElem_cons_succ, Act.put, List.setIfInBounds_toArray, List.set_cons_zero, List.set_cons_succ]
          refine wpAnyH_done (by decide +kernel) ?_ _
          rw [ey]
          go_wp2_with fail
          go_roundw
          case rel => exact ⟨j + 1, hlt2, by go_num, hH⟩
          case measure => simp [intOf]; omega
end Go.Proofs.Ytpfhkmppbochnaa
