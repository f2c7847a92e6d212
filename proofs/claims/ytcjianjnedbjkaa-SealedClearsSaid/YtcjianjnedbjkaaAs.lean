/- SealedMore, walked (by genAs.py). -/
import Derived.Test.YtcjianjnedbjkaaAr
import Derived.Deep.Cut
import Derived.Deep.RegionHeld
namespace Go.Proofs.Ytcjianjnedbjkaa
open Go.RowKit Go.Shelf
set_option linter.unusedVariables false
set_option linter.unusedSimpArgs false

theorem fill_pos8 : ∀ {s : List Or} {left : Int}, (∀ x, x ∈ s → 0 < x.le) → ∀ t, t ∈ fillC s left → 0 ≤ t.qt
  | [], left, _, t, ht => by simp [fillC] at ht
  | x :: r, left, h, t, ht => by
    unfold fillC at ht
    split at ht
    · cases ht
    · rcases List.mem_cons.1 ht with rfl | ht
      · have := h x (List.mem_cons_self ..)
        show 0 ≤ minC x.le left
        unfold minC; split <;> omega
      · exact fill_pos8 (fun y hy => h y (List.mem_cons_of_mem _ hy)) t ht
theorem clr_pos8 {b : Bool} {q : Int} {l : List Or} (h : OkC b q l) : ∀ t, t ∈ clrF b q l → 0 ≤ t.qt := by
  rw [← (fill_clr h).1]
  exact fill_pos8 fun x hx => h.pos x (sort_mem.1 hx)
theorem sumF_take : ∀ {f : List Fl} {k : Nat}, (∀ t, t ∈ f → 0 ≤ t.qt) → 0 ≤ sumF (f.take k) ∧ sumF (f.take k) ≤ sumF f
  | [], k, _ => by simp [sumF]
  | t :: f, 0, h => by
    have := (sumF_take (f := f) (k := f.length) fun u hu => h u (List.mem_cons_of_mem _ hu)).1
    rw [List.take_length] at this
    have ht := h t (List.mem_cons_self ..)
    have e : sumF (t :: f) = t.qt + sumF f := by simp [sumF]
    refine ⟨Int.le_refl _, ?_⟩
    show (0 : Int) ≤ _
    omega
  | t :: f, k + 1, h => by
    have := sumF_take (f := f) (k := k) fun u hu => h u (List.mem_cons_of_mem _ hu)
    have ht := h t (List.mem_cons_self ..)
    have e : sumF (t :: f) = t.qt + sumF f := by simp [sumF]
    have e2 : sumF ((t :: f).take (k + 1)) = t.qt + sumF (f.take k) := by simp [sumF]
    omega
theorem sumF_snoc {f : List Fl} {k : Nat} {t : Fl} (h : f[k]? = some t) : sumF (f.take (k + 1)) = sumF (f.take k) + t.qt := by
  rw [List.take_add_one, h]
  simp [sumF]
theorem cum_mid8 {b : Bool} {p : Int} {l : List Or} {x : Or} (k : Nat) (hx : 0 ≤ x.le) : cumC b l p ≤ cumC b (l.take k ++ [x] ++ l.drop k) p ∧ sumC l ≤ sumC (l.take k ++ [x] ++ l.drop k) := by
  have e1 : cumC b l p = cumC b (l.take k) p + cumC b (l.drop k) p := by rw [← cum_app, List.take_append_drop]
  have e2 : sumC l = sumC (l.take k) + sumC (l.drop k) := by rw [← sum_app, List.take_append_drop]
  rw [cum_app, cum_app, sum_app, sum_app, e1, e2]
  have := one_le (b := b) (p := p) hx
  have e3 : cumC b [x] p = oneC b p x := by simp [cumC]
  have e4 : sumC [x] = x.le := by simp [sumC]
  omega
theorem gwp_bs0 {α : Type} {E : Elt α} {P : Program} {ts te : TypeId} (T : EltT P E ts te) {w : World} {o : Oper} {a : Act} {K : Act → World → Prop} {Q : Exit → Act → World → Prop} (ho : o.op = .buildSlice ts 0 #[]) (h : K (a.put o.dst (.slice (some ⟨w.heap.size, 0, none⟩) 0 0)) (w.alloc (.cells #[] te))) : o.wp P a w K Q := by
  unfold Oper.wp execOp
  simp [ho, Instr.buildSlice, run_underlying T.und, Result.andThen, gsizeOf8 T, Instr.fill, newRow]
  have e : ∀ f : Nat → Value, Array.map f (Array.range 0) = #[] := fun f => by rw [show Array.range 0 = #[] from rfl, Array.map_empty]
  rw [e]
  exact h
theorem o0_of8 {B : Nat} {w1 U : World} (h : Below B w1 U) (hB : B ≤ w1.heap.size := by exact Nat.le_refl _) : EO.Own 31 (U.alloc (.cells #[] 31)) B (.slice (some ⟨U.heap.size, 0, none⟩) 0 0) [] := gown_low (gown_new U) (Nat.le_trans hB h.size)
theorem x6_of8 {B : Nat} {w1 U : World} (h : Below B w1 U) (x : Or) : EO.Bx 31 (U.alloc (.cells (EO.cells x).toArray 31)) U.heap.size x := gbx_new U x
set_option maxRecDepth 100000 in
set_option maxHeartbeats 16000000 in
theorem more8_all (K : ClearK) (b : Bool) (q : Int) (A : Option Addr) (n c : Nat) (l : List Or) (x : Or) (at' : Int) (w : World) (h : EO.Rd w A n l) (hok : ∀ x, x ∈ l → x.ok) (h0 : A = none → c = 0) (hnc : n ≤ c) (hn : n ≤ maxLen) (hq : I64' q) (ok : x.ok) (ha : I64' at') :
    Calls Try.prog 5 #[.bool b, .int .i64 q, .slice A n c, .agg (EO.cells x).toArray, .int .i64 at'] w fun e w' => e = .returned (.bool true) ∧ Below w.heap.size w w' := by
  obtain ⟨w1, hw1⟩ : ∃ w1, w.alloc (.cells (EO.cells x).toArray 31) = w1 := ⟨_, rfl⟩
  have b1 : Below w.heap.size w w1 := by rw [← hw1]; exact below_new w _
  have x1 : EO.Bx 31 w1 w.heap.size x := by rw [← hw1]; exact gbx_new w x
  have KH := Lib.hid K
  have KN := Lib.hid (fun W => known8 K W)
  have HW := Lib.hid hw1
  have HR := Lib.hid fun (W : World) (q : Below w1.heap.size w1 W) => (show EO.Rd W A n l from grd_below (grd_below h b1 (Nat.le_refl _)) q (Nat.le_refl _))
  have HX := Lib.hid fun (W : World) (q : Below w1.heap.size w1 W) => (show EO.Bx 31 W w.heap.size x from gbx_below x1 q)
  have HK := Lib.hid hok
  have HL := Lib.hid h.1
  have H0 := Lib.hid h0
  have B1 := Lib.hid b1
  have HQ := Lib.hid hq
  have HA := Lib.hid ha
  have OK := Lib.hid ok
  unfold maxLen at hn
  clear h hok h0 hq ha ok b1 x1 hw1 K
  by_cases c1 : 50 ≤ n
  · have c1' : decide ((50 : Int) ≤ (n : Int)) = true := decide_eq_true (by omega)
    go_enter Try.func5, Try.ntmps5
    go_wp2_with (rw [HW.out])
    refine (KN.out _).mono ?_; rintro e w2 ⟨rfl, q2⟩
    have Q2 := Lib.hid q2
    clear q2
    go_wp2_with fail
    go_ret
    exact ⟨rfl, B1.out.trans (Q2.out.mono B1.out.size)⟩
  have c1' : decide ((50 : Int) ≤ (n : Int)) = false := decide_eq_false (by omega)
  have wn : IntKind.i64.wrap ((n : Int) + 1) = (n : Int) + 1 := by rw [IntKind.wrap_i64]; omega
  have wn2 : IntKind.u64.wrap ((n : Int) + 1) = (n : Int) + 1 := by rw [IntKind.wrap_u64]; omega
  obtain ⟨k, ek, hk⟩ : ∃ k : Nat, wrap64 ((IntKind.u64.wrap at').tmod ((n : Int) + 1)) = (k : Int) ∧ k ≤ n := by
    have u0 : 0 ≤ IntKind.u64.wrap at' := by rw [IntKind.wrap_u64]; omega
    have t0 : (IntKind.u64.wrap at').tmod ((n : Int) + 1) = IntKind.u64.wrap at' % ((n : Int) + 1) := Int.tmod_eq_emod_of_nonneg u0
    have m0 := Int.emod_nonneg (IntKind.u64.wrap at') (show (n : Int) + 1 ≠ 0 by omega)
    have m1 := Int.emod_lt_of_pos (IntKind.u64.wrap at') (show 0 < (n : Int) + 1 by omega)
    refine ⟨(IntKind.u64.wrap at' % ((n : Int) + 1)).toNat, ?_, by omega⟩
    rw [t0]
    unfold wrap64
    omega
  obtain ⟨A1, hs1, ra, na⟩ := cut_lo8 TO A n c k l hk hnc H0.out
  obtain ⟨A2, hs2, rb, nb⟩ := cut_hi8 TO A n c k l hk hnc H0.out
  have RA := Lib.hid fun (W : World) (q : Below w1.heap.size w1 W) => ra W (HR.out W q)
  have RB := Lib.hid fun (W : World) (q : Below w1.heap.size w1 W) => rb W (HR.out W q)
  have NA := Lib.hid na
  have NB := Lib.hid nb
  have c1n : n < 50 := by omega
  clear ra na rb nb
  go_enter Try.func5, Try.ntmps5
  go_upto_region 4 with (rw [HW.out])
  go_cut [12] from 23 (fun v wx => ∃ v', v = v' ∧ EO.Own 31 wx w1.heap.size v' (l.take k ++ x :: l.drop k) ∧ Below w1.heap.size w1 wx)
  case first =>
    refine wp_region_held_drew (S := fun U => Below w1.heap.size w1 U) (by kernel_rfl) (Below.refl _ _).drew (fun hH => ?_)
    refine wpAnyH_take (i := 1) (v := .slice A n c) rfl (by kernel_rfl) (by kernel_rfl) (by kernel_rfl) (fun _ _ _ h => h) (.inl ⟨by rfl, ?_⟩) (by assumption) ?_
    · intro W hW; go_simp
    try simp only [List.getElem_toArray, List.getElem_cons_zero, List.getElem_cons_succ, Act.put, List.setIfInBounds_toArray, List.set_cons_zero, List.set_cons_succ]
    refine wpAnyH_take (i := 2) (v := .int .i64 k) rfl (by kernel_rfl) (by kernel_rfl) (by kernel_rfl) (fun _ _ _ h => h) (.inl ⟨by rfl, ?_⟩) (by assumption) ?_
    · intro W hW; go_simp
    try simp only [List.getElem_toArray, List.getElem_cons_zero, List.getElem_cons_succ, Act.put, List.setIfInBounds_toArray, List.set_cons_zero, List.set_cons_succ]
    refine wpAnyH_take (i := 3) (v := .slice A1 k c) rfl (by kernel_rfl) (by kernel_rfl) (by kernel_rfl) (fun _ _ _ h => h) (.inl ⟨by rfl, ?_⟩) (by assumption) ?_
    · intro W hW; go_simp
    try simp only [List.getElem_toArray, List.getElem_cons_zero, List.getElem_cons_succ, Act.put, List.setIfInBounds_toArray, List.set_cons_zero, List.set_cons_succ]
    refine wpAnyH_take (i := 5) (v := .agg (EO.cells x).toArray) rfl (by kernel_rfl) (by kernel_rfl) (by kernel_rfl) (fun _ _ _ h => h) (gyields_load TO (by rfl) (.tmp 8) rfl w.heap.size 0 rfl (fun U hU => gbx_rng (HX.out U hU))) (by assumption) ?_
    try simp only [List.getElem_toArray, List.getElem_cons_zero, List.getElem_cons_succ, Act.put, List.setIfInBounds_toArray, List.set_cons_zero, List.set_cons_succ]
    refine wpAnyH_take (i := 8) (v := .slice A n c) rfl (by kernel_rfl) (by kernel_rfl) (by kernel_rfl) (fun _ _ _ h => h) (.inl ⟨by rfl, ?_⟩) (by assumption) ?_
    · intro W hW; go_simp
    try simp only [List.getElem_toArray, List.getElem_cons_zero, List.getElem_cons_succ, Act.put, List.setIfInBounds_toArray, List.set_cons_zero, List.set_cons_succ]
    refine wpAnyH_take (i := 9) (v := .int .i64 k) rfl (by kernel_rfl) (by kernel_rfl) (by kernel_rfl) (fun _ _ _ h => h) (.inl ⟨by rfl, ?_⟩) (by assumption) ?_
    · intro W hW; go_simp
    try simp only [List.getElem_toArray, List.getElem_cons_zero, List.getElem_cons_succ, Act.put, List.setIfInBounds_toArray, List.set_cons_zero, List.set_cons_succ]
    refine wpAnyH_take (i := 10) (v := .slice A2 (n - k) (c - k)) rfl (by kernel_rfl) (by kernel_rfl) (by kernel_rfl) (fun _ _ _ h => h) (.inl ⟨by rfl, ?_⟩) (by assumption) ?_
    · intro W hW; go_simp
    try simp only [List.getElem_toArray, List.getElem_cons_zero, List.getElem_cons_succ, Act.put, List.setIfInBounds_toArray, List.set_cons_zero, List.set_cons_succ]
    refine wpAnyH_ready (rs := [0, 6]) (by decide +kernel) (by simp) (AllReadyH.cons rfl (fun KQ hK => ?_) (AllReadyH.cons rfl (fun KQ hK => ?_) (AllReadyH.nil)))
    · rw [if_pos (by rfl)]
      refine gwp_bs0 TO rfl ?_
      have o0 := o0_of8 hH
      have hH1 := hH.alloc hH.size (.cells #[] 31)
      refine hK.out _ _ hH1 (fun _ => ?_)
      clear hK hH
      have hH := hH1
      clear hH1
      try simp only [List.getElem_toArray, List.getElem_cons_zero, List.getElem_cons_succ, Act.put, List.setIfInBounds_toArray, List.set_cons_zero, List.set_cons_succ]
      refine wpAnyH_ready (rs := [4, 6]) (by decide +kernel) (by simp) (AllReadyH.cons rfl (fun KQ hK => ?_) (AllReadyH.cons rfl (fun KQ hK => ?_) (AllReadyH.nil)))
      · rw [if_pos (by rfl)]
        refine gwp_app TO _ _ rfl w1.heap.size (.slice (some ⟨w1.drew.heap.size, 0, none⟩) 0 0) [] rfl o0 A1 k c (l.take k) rfl (RA.out _ hH) NA.out (by simp; omega) hH.size ?_
        intro v1 w2 o1 g1 _
        have hH1 := hH.grown g1 hH.size (fun j hj => (gown_lt o0 hj).1)
        refine hK.out _ _ hH1 (fun _ => ?_)
        clear hK hH
        have hH := hH1
        clear hH1
        try simp only [List.getElem_toArray, List.getElem_cons_zero, List.getElem_cons_succ, Act.put, List.setIfInBounds_toArray, List.set_cons_zero, List.set_cons_succ]
        refine wpAnyH_ready (rs := [6]) (by decide +kernel) (by simp) (AllReadyH.cons rfl (fun KQ hK => ?_) (AllReadyH.nil))
        rw [if_pos (by rfl)]
        refine gwp_bs TO rfl (s := x) rfl (fill_or8 _) ?_ (by decide)
        have hH1 := hH.alloc hH.size (.cells (EO.cells x).toArray 31)
        have x6 := x6_of8 hH x
        replace o1 := gown_below o1 (below_new _ (.cells (EO.cells x).toArray 31))
        refine hK.out _ _ hH1 (fun _ => ?_)
        clear hK hH
        have hH := hH1
        clear hH1
        try simp only [List.getElem_toArray, List.getElem_cons_zero, List.getElem_cons_succ, Act.put, List.setIfInBounds_toArray, List.set_cons_zero, List.set_cons_succ]
        refine wpAnyH_ready (rs := [7]) (by decide +kernel) (by simp) (AllReadyH.cons rfl (fun KQ hK => ?_) (AllReadyH.nil))
        rw [if_pos (by rfl)]
        refine gwp_app TO _ _ rfl w1.heap.size _ _ rfl o1 _ 1 1 [x] rfl (gbx_rd x6) (fun e => by cases e) (by simp; omega) hH.size ?_
        intro v2 w3 o2 g2 _
        have hH1 := hH.grown g2 hH.size (fun j hj => (gown_lt o1 hj).1)
        refine hK.out _ _ hH1 (fun _ => ?_)
        clear hK hH
        have hH := hH1
        clear hH1
        try simp only [List.getElem_toArray, List.getElem_cons_zero, List.getElem_cons_succ, Act.put, List.setIfInBounds_toArray, List.set_cons_zero, List.set_cons_succ]
        refine wpAnyH_ready (rs := [11]) (by decide +kernel) (by simp) (AllReadyH.cons rfl (fun KQ hK => ?_) (AllReadyH.nil))
        rw [if_pos (by rfl)]
        refine gwp_app TO _ _ rfl w1.heap.size _ _ rfl o2 A2 (n - k) (c - k) (l.drop k) rfl (RB.out _ hH) NB.out (by simp; omega) hH.size ?_
        intro v3 w4 o3 g3 _
        have hH1 := hH.grown g3 hH.size (fun j hj => (gown_lt o2 hj).1)
        refine hK.out _ _ hH1 (fun _ => ?_)
        clear hK hH
        have hH := hH1
        clear hH1
        try simp only [List.getElem_toArray, List.getElem_cons_zero, List.getElem_cons_succ, Act.put, List.setIfInBounds_toArray, List.set_cons_zero, List.set_cons_succ]
        refine wpAnyH_take (i := 12) (v := v3) rfl (by kernel_rfl) (by kernel_rfl) (by kernel_rfl) (fun _ _ _ h => h) (.inl ⟨by rfl, ?_⟩) (by assumption) ?_
        · intro W hW; go_simp
        try simp only [List.getElem_toArray, List.getElem_cons_zero, List.getElem_cons_succ, Act.put, List.setIfInBounds_toArray, List.set_cons_zero, List.set_cons_succ]
        refine wpAnyH_done (by decide +kernel) ?_ _
        go_wp2_with fail
        go_meet
        case rel => exact ⟨v3, rfl, by simpa using o3, hH⟩
      · rw [if_pos (by rfl)]
        refine gwp_bs TO rfl (s := x) rfl (fill_or8 _) ?_ (by decide)
        have hH1 := hH.alloc hH.size (.cells (EO.cells x).toArray 31)
        have x6 := x6_of8 hH x
        replace o0 := gown_below o0 (below_new _ (.cells (EO.cells x).toArray 31))
        refine hK.out _ _ hH1 (fun _ => ?_)
        clear hK hH
        have hH := hH1
        clear hH1
        try simp only [List.getElem_toArray, List.getElem_cons_zero, List.getElem_cons_succ, Act.put, List.setIfInBounds_toArray, List.set_cons_zero, List.set_cons_succ]
        refine wpAnyH_ready (rs := [4]) (by decide +kernel) (by simp) (AllReadyH.cons rfl (fun KQ hK => ?_) (AllReadyH.nil))
        rw [if_pos (by rfl)]
        refine gwp_app TO _ _ rfl w1.heap.size (.slice (some ⟨w1.drew.heap.size, 0, none⟩) 0 0) [] rfl o0 A1 k c (l.take k) rfl (RA.out _ hH) NA.out (by simp; omega) hH.size ?_
        intro v1 w2 o1 g1 _
        have hH1 := hH.grown g1 hH.size (fun j hj => (gown_lt o0 hj).1)
        replace x6 : EO.Bx 31 w2 _ x := (g1.block _ (Array.getElem?_eq_some_iff.1 x6).1 (fun e => by simp [Value.ownBlock] at e)).trans x6
        refine hK.out _ _ hH1 (fun _ => ?_)
        clear hK hH
        have hH := hH1
        clear hH1
        try simp only [List.getElem_toArray, List.getElem_cons_zero, List.getElem_cons_succ, Act.put, List.setIfInBounds_toArray, List.set_cons_zero, List.set_cons_succ]
        refine wpAnyH_ready (rs := [7]) (by decide +kernel) (by simp) (AllReadyH.cons rfl (fun KQ hK => ?_) (AllReadyH.nil))
        rw [if_pos (by rfl)]
        refine gwp_app TO _ _ rfl w1.heap.size _ _ rfl o1 _ 1 1 [x] rfl (gbx_rd x6) (fun e => by cases e) (by simp; omega) hH.size ?_
        intro v2 w3 o2 g2 _
        have hH1 := hH.grown g2 hH.size (fun j hj => (gown_lt o1 hj).1)
        refine hK.out _ _ hH1 (fun _ => ?_)
        clear hK hH
        have hH := hH1
        clear hH1
        try simp only [List.getElem_toArray, List.getElem_cons_zero, List.getElem_cons_succ, Act.put, List.setIfInBounds_toArray, List.set_cons_zero, List.set_cons_succ]
        refine wpAnyH_ready (rs := [11]) (by decide +kernel) (by simp) (AllReadyH.cons rfl (fun KQ hK => ?_) (AllReadyH.nil))
        rw [if_pos (by rfl)]
        refine gwp_app TO _ _ rfl w1.heap.size _ _ rfl o2 A2 (n - k) (c - k) (l.drop k) rfl (RB.out _ hH) NB.out (by simp; omega) hH.size ?_
        intro v3 w4 o3 g3 _
        have hH1 := hH.grown g3 hH.size (fun j hj => (gown_lt o2 hj).1)
        refine hK.out _ _ hH1 (fun _ => ?_)
        clear hK hH
        have hH := hH1
        clear hH1
        try simp only [List.getElem_toArray, List.getElem_cons_zero, List.getElem_cons_succ, Act.put, List.setIfInBounds_toArray, List.set_cons_zero, List.set_cons_succ]
        refine wpAnyH_take (i := 12) (v := v3) rfl (by kernel_rfl) (by kernel_rfl) (by kernel_rfl) (fun _ _ _ h => h) (.inl ⟨by rfl, ?_⟩) (by assumption) ?_
        · intro W hW; go_simp
        try simp only [List.getElem_toArray, List.getElem_cons_zero, List.getElem_cons_succ, Act.put, List.setIfInBounds_toArray, List.set_cons_zero, List.set_cons_succ]
        refine wpAnyH_done (by decide +kernel) ?_ _
        go_wp2_with fail
        go_meet
        case rel => exact ⟨v3, rfl, by simpa using o3, hH⟩
    · rw [if_pos (by rfl)]
      refine gwp_bs TO rfl (s := x) rfl (fill_or8 _) ?_ (by decide)
      have hH1 := hH.alloc hH.size (.cells (EO.cells x).toArray 31)
      have x6 := x6_of8 hH x
      refine hK.out _ _ hH1 (fun _ => ?_)
      clear hK hH
      have hH := hH1
      clear hH1
      try simp only [List.getElem_toArray, List.getElem_cons_zero, List.getElem_cons_succ, Act.put, List.setIfInBounds_toArray, List.set_cons_zero, List.set_cons_succ]
      refine wpAnyH_ready (rs := [0]) (by decide +kernel) (by simp) (AllReadyH.cons rfl (fun KQ hK => ?_) (AllReadyH.nil))
      rw [if_pos (by rfl)]
      refine gwp_bs0 TO rfl ?_
      have o0 := o0_of8 hH
      have hH1 := hH.alloc hH.size (.cells #[] 31)
      replace x6 := gbx_below x6 (below_new _ (.cells #[] 31))
      refine hK.out _ _ hH1 (fun _ => ?_)
      clear hK hH
      have hH := hH1
      clear hH1
      try simp only [List.getElem_toArray, List.getElem_cons_zero, List.getElem_cons_succ, Act.put, List.setIfInBounds_toArray, List.set_cons_zero, List.set_cons_succ]
      refine wpAnyH_ready (rs := [4]) (by decide +kernel) (by simp) (AllReadyH.cons rfl (fun KQ hK => ?_) (AllReadyH.nil))
      rw [if_pos (by rfl)]
      refine gwp_app TO _ _ rfl w1.heap.size (.slice (some ⟨(w1.drew.alloc (.cells (EO.cells x).toArray 31)).heap.size, 0, none⟩) 0 0) [] rfl o0 A1 k c (l.take k) rfl (RA.out _ hH) NA.out (by simp; omega) hH.size ?_
      intro v1 w2 o1 g1 _
      have hH1 := hH.grown g1 hH.size (fun j hj => (gown_lt o0 hj).1)
      replace x6 : EO.Bx 31 w2 _ x := (g1.block _ (Array.getElem?_eq_some_iff.1 x6).1 (fun e => by simp [Value.ownBlock] at e)).trans x6
      refine hK.out _ _ hH1 (fun _ => ?_)
      clear hK hH
      have hH := hH1
      clear hH1
      try simp only [List.getElem_toArray, List.getElem_cons_zero, List.getElem_cons_succ, Act.put, List.setIfInBounds_toArray, List.set_cons_zero, List.set_cons_succ]
      refine wpAnyH_ready (rs := [7]) (by decide +kernel) (by simp) (AllReadyH.cons rfl (fun KQ hK => ?_) (AllReadyH.nil))
      rw [if_pos (by rfl)]
      refine gwp_app TO _ _ rfl w1.heap.size _ _ rfl o1 _ 1 1 [x] rfl (gbx_rd x6) (fun e => by cases e) (by simp; omega) hH.size ?_
      intro v2 w3 o2 g2 _
      have hH1 := hH.grown g2 hH.size (fun j hj => (gown_lt o1 hj).1)
      refine hK.out _ _ hH1 (fun _ => ?_)
      clear hK hH
      have hH := hH1
      clear hH1
      try simp only [List.getElem_toArray, List.getElem_cons_zero, List.getElem_cons_succ, Act.put, List.setIfInBounds_toArray, List.set_cons_zero, List.set_cons_succ]
      refine wpAnyH_ready (rs := [11]) (by decide +kernel) (by simp) (AllReadyH.cons rfl (fun KQ hK => ?_) (AllReadyH.nil))
      rw [if_pos (by rfl)]
      refine gwp_app TO _ _ rfl w1.heap.size _ _ rfl o2 A2 (n - k) (c - k) (l.drop k) rfl (RB.out _ hH) NB.out (by simp; omega) hH.size ?_
      intro v3 w4 o3 g3 _
      have hH1 := hH.grown g3 hH.size (fun j hj => (gown_lt o2 hj).1)
      refine hK.out _ _ hH1 (fun _ => ?_)
      clear hK hH
      have hH := hH1
      clear hH1
      try simp only [List.getElem_toArray, List.getElem_cons_zero, List.getElem_cons_succ, Act.put, List.setIfInBounds_toArray, List.set_cons_zero, List.set_cons_succ]
      refine wpAnyH_take (i := 12) (v := v3) rfl (by kernel_rfl) (by kernel_rfl) (by kernel_rfl) (fun _ _ _ h => h) (.inl ⟨by rfl, ?_⟩) (by assumption) ?_
      · intro W hW; go_simp
      try simp only [List.getElem_toArray, List.getElem_cons_zero, List.getElem_cons_succ, Act.put, List.setIfInBounds_toArray, List.set_cons_zero, List.set_cons_succ]
      refine wpAnyH_done (by decide +kernel) ?_ _
      go_wp2_with fail
      go_meet
      case rel => exact ⟨v3, rfl, by simpa using o3, hH⟩
  case rest =>
    clear hs1 hs2 ek wn wn2
    obtain ⟨v', rfl, o5, q5⟩ := hcut
    obtain ⟨L2, hL2⟩ : ∃ L2, l.take k ++ x :: l.drop k = L2 := ⟨_, rfl⟩
    have e2 : L2.length = n + 1 := by rw [← hL2]; simp [HL.out]; omega
    rw [hL2] at o5
    obtain ⟨A5, c5, rfl, n5⟩ := gown_form o5
    rw [e2] at o5
    have R5 := Lib.hid (gown_rd o5)
    have N5 := Lib.hid n5
    have Q5 := Lib.hid q5
    have HL2 := Lib.hid hL2
    have KL := Lib.hid (KH.out b q A n c l _ (HR.out _ q5) HK.out H0.out (by unfold maxLen; omega) HQ.out)
    have OK2 : Hid (∀ y, y ∈ L2 → y.ok) := Lib.hid fun y hy => by
      rw [← HL2.out] at hy
      rcases List.mem_append.1 hy with hy | hy
      · exact HK.out y (List.mem_of_mem_take hy)
      · rcases List.mem_cons.1 hy with rfl | hy
        · exact OK.out
        · exact HK.out y (List.mem_of_mem_drop hy)
    have F12 : Hid (clrA b q l = 0 → clrA b q L2 = 0 → sumF (clrF b q l) ≤ sumF (clrF b q L2) ∧ sumF (clrF b q L2) ≤ q ∧ q ≤ 10000000 ∧ (sumF (clrF b q l) = q → btr b (clrP b q l) (clrP b q L2) = false) ∧ (∀ t, t ∈ clrF b q l → 0 ≤ t.qt) ∧ ∀ t, t ∈ clrF b q L2 → 0 ≤ t.qt) := Lib.hid fun a1 a2 => by
      have k1 := ok_of a1
      have k2 := ok_of a2
      have hx0 : 0 ≤ x.le := Int.le_of_lt (k2.pos x (by rw [← HL2.out]; simp))
      have eL : l.take k ++ [x] ++ l.drop k = L2 := by rw [← HL2.out]; simp
      have mo := clr_more k1 k2 (fun y hy => by
        rw [← HL2.out, List.mem_append, List.mem_cons]
        rw [← List.take_append_drop k l, List.mem_append] at hy
        exact hy.imp id .inr) (by rw [← eL]; exact (cum_mid8 (b := b) (p := 0) k hx0).2) (fun p => by rw [← eL]; exact (cum_mid8 (b := b) (p := p) k hx0).1)
      have le := clr_sum k2
      have := k2.q2
      refine ⟨mo.1, ?_, k2.q2, mo.2, clr_pos8 k1, clr_pos8 k2⟩
      rw [le]
      unfold minC; split <;> omega
    obtain ⟨f1, hf1⟩ : ∃ f, clrF b q l = f := ⟨_, rfl⟩
    obtain ⟨f2, hf2⟩ : ∃ f, clrF b q L2 = f := ⟨_, rfl⟩
    obtain ⟨p1, hp1⟩ : ∃ f, clrP b q l = f := ⟨_, rfl⟩
    obtain ⟨p2, hp2⟩ : ∃ f, clrP b q L2 = f := ⟨_, rfl⟩
    obtain ⟨e1, he1⟩ : ∃ f, clrA b q l = f := ⟨_, rfl⟩
    obtain ⟨e2', he2⟩ : ∃ f, clrA b q L2 = f := ⟨_, rfl⟩
    rw [hf1, hf2, hp1, hp2, he1, he2] at F12
    rw [hf1, hp1, he1] at KL
    have H6 := Lib.hid (And.intro hf2 (And.intro hp2 he2))
    clear hL2 o5 n5 q5 hf1 hf2 hp1 hp2 he1 he2
    go_wp2_with fail
    refine KL.out.mono ?_; rintro e w6 ⟨v1, rfl, o1, q6⟩
    have O6 := Lib.hid o1
    have Q6 := Lib.hid (Q5.out.trans (q6.mono Q5.out.size))
    have KL2 := Lib.hid (KH.out b q A5 (n + 1) c5 L2 w6 (grd_below R5.out q6 (Nat.le_refl _)) OK2.out N5.out (by unfold maxLen; omega) HQ.out)
    rw [H6.out.1, H6.out.2.1, H6.out.2.2] at KL2
    clear q6 o1 KL H6
    go_wp2_with fail
    refine KL2.out.mono ?_; rintro e w7 ⟨v2, rfl, o2, q7⟩
    have O7 := Lib.hid (gown_below O6.out q7)
    have P7 := Lib.hid o2
    have Q7 := Lib.hid (Q6.out.trans (q7.mono Q6.out.size))
    clear q7 o2 KL2
    have KNOWN := Lib.hid (fun U (qU : Below w1.heap.size w1 U) => (KN.out U).mono (fun e W h => (⟨h.1, B1.out.trans ((qU.trans (h.2.mono qU.size)).mono B1.out.size)⟩ : e = .returned (.bool true) ∧ Below w.heap.size w W)))
    obtain ⟨A6, c6, rfl, _⟩ := gown_form O7.out
    obtain ⟨A7, c7, rfl, _⟩ := gown_form P7.out
    by_cases z1 : e1 = 0
    case neg =>
      have z1b : (e1 == 0) = false := by simpa using z1
      clear z1
      go_wp2_with fail
      refine (KNOWN.out _ Q7.out).mono ?_; rintro e w8 ⟨rfl, q8⟩
      have Q8 := Lib.hid q8
      clear q8
      go_wp2_with fail
      go_ret
      exact ⟨rfl, Q8.out⟩
    by_cases z2 : e2' = 0
    case neg =>
      have z2b : (e2' == 0) = false := by simpa using z2
      subst z1
      clear z2
      go_wp2_with fail
      refine (KNOWN.out _ Q7.out).mono ?_; rintro e w8 ⟨rfl, q8⟩
      have Q8 := Lib.hid q8
      clear q8
      go_wp2_with fail
      go_ret
      exact ⟨rfl, Q8.out⟩
    subst z1 z2
    obtain ⟨s1, s2, s3, s4, s5, s6⟩ := F12.out rfl rfl
    have HS4 := Lib.hid s4
    have HS5 := Lib.hid s5
    have HS6 := Lib.hid s6
    clear F12 s4 s5 s6
    go_wp2_with fail
    go_loop [19, 72] (fun va i => ∃ j : Nat, j ≤ f1.length ∧ i = .int .i64 j ∧ va = .int .i64 (sumF (f1.take j))) (fun va i => f1.length - (intOf i).toNat)
    case atStart => exact ⟨0, Nat.zero_le _, rfl, rfl⟩
    case round =>
      obtain ⟨j, hj, rfl, rfl⟩ := hrel
      by_cases hlt : j < f1.length
      case pos =>
        have hd : decide ((j : Int) < (f1.length : Int)) = true := decide_eq_true (by omega)
        obtain ⟨t, ht⟩ : ∃ t, f1[j]? = some t := ⟨f1[j], List.getElem?_eq_getElem hlt⟩
        obtain ⟨bb, cc, eb⟩ := gown_slot O7.out (by omega)
        cases eb
        have hcap := gown_cap O7.out
        have hcell := gown_at O7.out ht (i := 2) (by decide)
        have ec : (EF.cells t)[2]? = some (.int .i64 t.qt) := rfl
        have eN : EF.N = 3 := rfl
        rw [ec, eN] at hcell
        have hs := sumF_snoc ht
        have hb1 := sumF_take (f := f1) (k := j + 1) HS5.out
        have wr : IntKind.i64.wrap (sumF (f1.take j) + t.qt) = sumF (f1.take j) + t.qt := by rw [IntKind.wrap_i64]; omega
        have HSN := Lib.hid hs
        clear ec eN hs hb1 ht
        go_wp2_with fail
        go_round
        case rel => exact ⟨j + 1, hlt, by go_num, by rw [HSN.out]⟩
        case measure => simp [intOf]; omega
      case neg =>
        obtain rfl : j = f1.length := by omega
        rw [List.take_length]
        go_wp2_with fail
        go_loop [20, 85] (fun va i => ∃ j : Nat, j ≤ f2.length ∧ i = .int .i64 j ∧ va = .int .i64 (sumF (f2.take j))) (fun va i => f2.length - (intOf i).toNat)
        case atStart => exact ⟨0, Nat.zero_le _, rfl, rfl⟩
        case round =>
          obtain ⟨j, hj, rfl, rfl⟩ := hrel
          by_cases hlt : j < f2.length
          case pos =>
            have hd : decide ((j : Int) < (f2.length : Int)) = true := decide_eq_true (by omega)
            obtain ⟨t, ht⟩ : ∃ t, f2[j]? = some t := ⟨f2[j], List.getElem?_eq_getElem hlt⟩
            obtain ⟨bb, cc, eb⟩ := gown_slot P7.out (by omega)
            cases eb
            have hcap := gown_cap P7.out
            have hcell := gown_at P7.out ht (i := 2) (by decide)
            have ec : (EF.cells t)[2]? = some (.int .i64 t.qt) := rfl
            have eN : EF.N = 3 := rfl
            rw [ec, eN] at hcell
            have hs := sumF_snoc ht
            have hb1 := sumF_take (f := f2) (k := j + 1) HS6.out
            have wr : IntKind.i64.wrap (sumF (f2.take j) + t.qt) = sumF (f2.take j) + t.qt := by rw [IntKind.wrap_i64]; omega
            have HSN := Lib.hid hs
            clear ec eN hs hb1 ht
            go_wp2_with fail
            go_round
            case rel => exact ⟨j + 1, hlt, by go_num, by rw [HSN.out]⟩
            case measure => simp [intOf]; omega
          case neg =>
            obtain rfl : j = f2.length := by omega
            rw [List.take_length]
            generalize sumF f1 = u1 at *
            generalize sumF f2 = u2 at *
            have d1 : decide (u2 < u1) = false := decide_eq_false (by omega)
            cases d2 : (u1 == q)
            · go_wp2_with fail
              refine (KNOWN.out _ Q7.out).mono ?_; rintro e w8 ⟨rfl, q8⟩
              have Q8 := Lib.hid q8
              clear q8
              go_wp2_with fail
              go_ret
              exact ⟨rfl, Q8.out⟩
            · have d3 := HS4.out (beq_iff_eq.1 d2)
              cases b
              · have d4 : decide (p1 < p2) = false := by simpa [btr] using d3
                go_wp2_with fail
                refine (KNOWN.out _ Q7.out).mono ?_; rintro e w8 ⟨rfl, q8⟩
                have Q8 := Lib.hid q8
                clear q8
                go_wp2_with fail
                go_ret
                exact ⟨rfl, Q8.out⟩
              · have d4 : decide (p2 < p1) = false := by simpa [btr] using d3
                go_wp2_with fail
                refine (KNOWN.out _ Q7.out).mono ?_; rintro e w8 ⟨rfl, q8⟩
                have Q8 := Lib.hid q8
                clear q8
                go_wp2_with fail
                go_ret
                exact ⟨rfl, Q8.out⟩
end Go.Proofs.Ytcjianjnedbjkaa
