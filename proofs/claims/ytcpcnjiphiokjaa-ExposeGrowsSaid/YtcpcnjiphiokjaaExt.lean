/- The total of what is needed: the program's and the document's (by genExt.py). -/
import Derived.Test.YtcpcnjiphiokjaaExg
import Derived.Test.YtcpcnjiphiokjaaExs
namespace Go.Proofs.Ytcpcnjiphiokjaa
open Go.RowKit Go.Shelf
set_option linter.unusedVariables false
set_option linter.unusedSimpArgs false

structure Nd.ok (x : Nd) : Prop where
  m : I64 x.m
  w : I64 x.w
  u : I64 x.u
theorem quarter {m w u : Int} (hm : I64 m) (hw : I64 w) (hu : I64 u) (h : ¬ I64 (m + w + u)) : (9223372036854775807 < m + w + u ∧ 0 < m.tdiv 4 + w.tdiv 4 + u.tdiv 4) ∨ (m + w + u < -9223372036854775808 ∧ ¬ 0 < m.tdiv 4 + w.tdiv 4 + u.tdiv 4) := by
  unfold I64 at hm hw hu h
  have key : ∀ a : Int, a - 3 ≤ 4 * a.tdiv 4 ∧ 4 * a.tdiv 4 ≤ a + 3 := fun a => by
    rcases Int.le_total 0 a with c | c
    · rw [Int.tdiv_eq_ediv_of_nonneg c]; omega
    · obtain ⟨b, rfl⟩ : ∃ b, a = -b := ⟨-a, by omega⟩
      rw [Int.neg_tdiv, Int.tdiv_eq_ediv_of_nonneg (by omega)]; omega
  have k1 := key m
  have k2 := key w
  have k3 := key u
  omega
theorem quarter_bd {m : Int} (hm : I64 m) : -2305843009213693952 ≤ m.tdiv 4 ∧ m.tdiv 4 ≤ 2305843009213693952 := by
  unfold I64 at hm
  rcases Int.le_total 0 m with c | c
  · rw [Int.tdiv_eq_ediv_of_nonneg c]; omega
  · obtain ⟨b, rfl⟩ : ∃ b, m = -b := ⟨-m, by omega⟩
    rw [Int.neg_tdiv, Int.tdiv_eq_ediv_of_nonneg (by omega)]; omega
set_option maxRecDepth 100000 in
set_option maxHeartbeats 1000000 in
theorem total11 (x : Nd) (w : World) (ok : x.ok) : Calls Try.prog 12 #[.agg (EN.cells x).toArray] w fun e w' => e = .returned (.int .i64 (toN x)) ∧ Below w.heap.size w w' := by
  obtain ⟨m, p, u⟩ := x
  obtain ⟨hm, hp, hu⟩ := ok
  dsimp only at hm hp hu
  show Calls Try.prog 12 #[.agg #[.int .i64 m, .int .i64 p, .int .i64 u]] w _
  have SU := Lib.hid fun (W : World) (g c : Nat) (h : ∀ j, j < 3 → W.cell? ⟨g, 0 + j, none⟩ = some (.int .i64 ([m, p, u].getD j 0))) => sum_any g 0 3 c [m, p, u] W rfl (by decide) (fun n hn => by
    simp only [List.mem_cons, List.not_mem_nil, or_false] at hn
    rcases hn with rfl | rfl | rfl
    · exact hm
    · exact hp
    · exact hu) h
  have E : sm [m, p, u] = m + p + u := by simp only [sm]; omega
  rw [E] at SU
  obtain ⟨W1, hW1⟩ : ∃ W1, w.alloc (.cells #[.int .i64 m, .int .i64 p, .int .i64 u] 35) = W1 := ⟨_, rfl⟩
  have x1 : EN.Bx 35 W1 w.heap.size ⟨m, p, u⟩ := by rw [← hW1]; exact gbx_new (E := EN) w ⟨m, p, u⟩
  have b1 : Below w.heap.size w W1 := by rw [← hW1]; exact below_new w _
  have k0 : W1.cell? ⟨w.heap.size, 0, none⟩ = some (.int .i64 m) := gbx_cell x1 0
  have k1 : W1.cell? ⟨w.heap.size, 1, none⟩ = some (.int .i64 p) := gbx_cell x1 1
  have k2 : W1.cell? ⟨w.heap.size, 2, none⟩ = some (.int .i64 u) := gbx_cell x1 2
  obtain ⟨W2, hW2⟩ : ∃ W2, W1.alloc (.cells #[.int .i64 m, .int .i64 p, .int .i64 u] 2) = W2 := ⟨_, rfl⟩
  have b2 : Below W1.heap.size W1 W2 := by rw [← hW2]; exact below_new W1 _
  have S := Lib.hid (SU.out W2 W1.heap.size 3 (fun j hj => by
    rw [Nat.zero_add, ← hW2, cell_of_row _ _ _ _ _ _ (heap_alloc_new W1 _)]
    match j, hj with
    | 0, _ => rfl
    | 1, _ => rfl
    | 2, _ => rfl))
  have X2 := Lib.hid (gbx_below x1 b2)
  have Q := Lib.hid (b1.trans (b2.mono b1.size))
  have HW1 := Lib.hid hW1
  have HW2 := Lib.hid hW2
  clear x1 b1 hW1 hW2 b2 SU E
  by_cases c : I64 (m + p + u)
  · have T : Hid (m + p + u = toN ⟨m, p, u⟩) := Lib.hid (by unfold I64 at c; unfold toN; dsimp only; rw [if_neg (by omega), if_neg (by omega)])
    rw [tN_in c, tE_in c] at S
    clear hm hp hu c
    go_enter Try.func12, Try.ntmps12
    go_wp2_with (first | (rw [HW1.out]) | (rw [HW2.out]))
    refine S.out.mono ?_; rintro e w3 ⟨rfl, rfl⟩
    go_wp2_with fail
    go_ret
    rw [← T.out]
    exact ⟨rfl, Q.out⟩
  · rw [tN_out c, tE_out c] at S
    have k0' : W2.cell? ⟨w.heap.size, 0, none⟩ = some (.int .i64 m) := gbx_cell X2.out 0
    have k1' : W2.cell? ⟨w.heap.size, 1, none⟩ = some (.int .i64 p) := gbx_cell X2.out 1
    have k2' : W2.cell? ⟨w.heap.size, 2, none⟩ = some (.int .i64 u) := gbx_cell X2.out 2
    have q1 := quarter_bd hm
    have q2 := quarter_bd hp
    have q3 := quarter_bd hu
    obtain ⟨a1, ha1⟩ : ∃ a, m.tdiv 4 = a := ⟨_, rfl⟩
    obtain ⟨a2, ha2⟩ : ∃ a, p.tdiv 4 = a := ⟨_, rfl⟩
    obtain ⟨a3, ha3⟩ : ∃ a, u.tdiv 4 = a := ⟨_, rfl⟩
    have QU := quarter hm hp hu c
    rw [ha1, ha2, ha3] at QU
    rw [ha1] at q1
    rw [ha2] at q2
    rw [ha3] at q3
    obtain ⟨i1, i2⟩ := q1
    obtain ⟨i3, i4⟩ := q2
    obtain ⟨i5, i6⟩ := q3
    clear hm hp hu c
    rcases QU with ⟨c1, c2⟩ | ⟨c1, c2⟩
    · have T : Hid (toN ⟨m, p, u⟩ = 9223372036854775807) := Lib.hid (by unfold toN; dsimp only; rw [if_pos c1])
      have d : decide (0 < a1 + a2 + a3) = true := decide_eq_true c2
      clear c1 c2
      go_enter Try.func12, Try.ntmps12
      go_wp2_with (first | (rw [HW1.out]) | (rw [HW2.out]))
      refine S.out.mono ?_; rintro e w3 ⟨rfl, rfl⟩
      go_wp2_with fail
      go_ret
      rw [T.out]
      exact ⟨rfl, Q.out⟩
    · have T : Hid (toN ⟨m, p, u⟩ = -9223372036854775808) := Lib.hid (by unfold toN; dsimp only; rw [if_neg (by omega), if_pos c1])
      have d : decide (0 < a1 + a2 + a3) = false := decide_eq_false c2
      clear c1 c2
      go_enter Try.func12, Try.ntmps12
      go_wp2_with (first | (rw [HW1.out]) | (rw [HW2.out]))
      refine S.out.mono ?_; rintro e w3 ⟨rfl, rfl⟩
      go_wp2_with fail
      go_ret
      rw [T.out]
      exact ⟨rfl, Q.out⟩
theorem zero_nm11 (w : World) : (zeroValue 58).run Try.prog w = .ok (.agg (nm false fun _ => 0)) w := by kernel_rfl
theorem total_fin11 {m p u N : Int} {s : Bool} (h : 0 ≤ N ∧ N ≤ 27670116110564327424 ∧ sgn s N = m + p + u) : toN ⟨m, p, u⟩ = if tO (m + p + u) then tN (m + p + u) else if s then -9223372036854775808 else 9223372036854775807 := by
  obtain ⟨h0, h1, h2⟩ := h
  unfold toN tO tN
  dsimp only
  generalize m + p + u = x at *
  by_cases c : -9223372036854775808 ≤ x ∧ x ≤ 9223372036854775807
  · rw [if_neg (show ¬ 9223372036854775807 < x by omega), if_neg (show ¬ x < -9223372036854775808 by omega), decide_eq_true c, if_pos rfl, if_pos c]
  · simp only [decide_eq_false c, Bool.false_eq_true, if_false]
    unfold sgn at h2
    cases s
    · simp only [Bool.false_eq_true, if_false] at h2 ⊢
      rw [if_pos (show 9223372036854775807 < x by omega)]
    · simp only [if_true] at h2 ⊢
      rw [if_neg (show ¬ 9223372036854775807 < x by omega), if_pos (show x < -9223372036854775808 by omega)]
set_option maxRecDepth 100000 in
set_option maxHeartbeats 4000000 in
theorem rtotal11 (x : Nd) (w : World) (ok : x.ok) : Calls Try.prog 13 #[.agg (EN.cells x).toArray] w fun e w' => e = .returned (.int .i64 (toN x)) ∧ Below w.heap.size w w' := by
  obtain ⟨m, p, u⟩ := x
  obtain ⟨hm, hp, hu⟩ := ok
  dsimp only at hm hp hu
  show Calls Try.prog 13 #[.agg #[.int .i64 m, .int .i64 p, .int .i64 u]] w _
  have hz := zero_nm11
  have O1 := Lib.hid fun W => of_any m hm W
  have O2 := Lib.hid fun W => of_any p hp W
  have O3 := Lib.hid fun W => of_any u hu W
  have m1 := mag_bd m hm
  have m2 := mag_bd p hp
  have m3 := mag_bd u hu
  have P1 := Lib.hid fun W => plus_num (decide (m < 0)) (decide (p < 0)) (mag m) (mag p) 18446744073709551616 m1.1 m2.1 (by omega) (by have := T12; omega) W
  rw [sgn_mag, sgn_mag] at P1
  have P2 := Lib.hid fun (s : Bool) (N : Int) (h0 : 0 ≤ N) (h1 : N ≤ 18446744073709551616) W => plus_num s (decide (u < 0)) N (mag u) 27670116110564327424 h0 m3.1 (by omega) (by have := T12; omega) W
  rw [sgn_mag] at P2
  have I1 := Lib.hid fun (s : Bool) (N : Int) (h0 : 0 ≤ N) (h1 : N ≤ 27670116110564327424) W => int_any s N h0 (by have := T12; omega) W
  obtain ⟨W1, hW1⟩ : ∃ W1, w.alloc (.cells #[.int .i64 m, .int .i64 p, .int .i64 u] 35) = W1 := ⟨_, rfl⟩
  have x1 : EN.Bx 35 W1 w.heap.size ⟨m, p, u⟩ := by rw [← hW1]; exact gbx_new (E := EN) w ⟨m, p, u⟩
  have b1 : Below w.heap.size w W1 := by rw [← hW1]; exact below_new w _
  have KX := Lib.hid fun (W : World) (q : Below W1.heap.size W1 W) => (show EN.Bx 35 W w.heap.size ⟨m, p, u⟩ from gbx_below x1 q)
  have HW1 := Lib.hid hW1
  have B1 := Lib.hid b1
  generalize decide (m < 0) = s1 at *
  generalize decide (p < 0) = s2 at *
  generalize decide (u < 0) = s3 at *
  generalize mag m = g1 at *
  generalize mag p = g2 at *
  generalize mag u = g3 at *
  clear x1 b1 hW1 hm hp hu m1 m2 m3
  go_enter Try.func13, Try.ntmps13
  go_wp2_with (rw [HW1.out])
  refine wp_region_held_drew (S := fun U => Below W1.heap.size W1 U) (by kernel_rfl) (Below.refl _ _).drew (fun hH => ?_)
  have HB0 := Lib.hid hH
  refine wpAnyH_take (i := 0) (v := .pointer (some ⟨w.heap.size, 0, none⟩)) rfl (by kernel_rfl) (by kernel_rfl) (by kernel_rfl) (fun _ _ _ h => h) (.inl ⟨by rfl, ?_⟩) (by assumption) ?_
  · intro W hW; go_simp
  try simp only [List.getElem_toArray, List.getElem_cons_zero, Act.put, List.setIfInBounds_toArray, List.set_cons_zero, List.set_cons_succ]
  refine wpAnyH_take (i := 1) (v := .int .i64 m) rfl (by kernel_rfl) (by kernel_rfl) (by kernel_rfl) (fun _ _ _ h => h) (.inl ⟨by rfl, ?_⟩) (by assumption) ?_
  · intro W hW; have kk : W.cell? ⟨w.heap.size, 0, none⟩ = some (.int .i64 m) := gbx_cell (KX.out W hW) 0; go_simp
  try simp only [List.getElem_toArray, List.getElem_cons_zero, List.getElem_cons_succ, Act.put, List.setIfInBounds_toArray, List.set_cons_zero, List.set_cons_succ]
  refine wpAnyH_take (i := 3) (v := .pointer (some ⟨w.heap.size, 1, none⟩)) rfl (by kernel_rfl) (by kernel_rfl) (by kernel_rfl) (fun _ _ _ h => h) (.inl ⟨by rfl, ?_⟩) (by assumption) ?_
  · intro W hW; go_simp
  try simp only [List.getElem_toArray, List.getElem_cons_zero, List.getElem_cons_succ, Act.put, List.setIfInBounds_toArray, List.set_cons_zero, List.set_cons_succ]
  refine wpAnyH_take (i := 4) (v := .int .i64 p) rfl (by kernel_rfl) (by kernel_rfl) (by kernel_rfl) (fun _ _ _ h => h) (.inl ⟨by rfl, ?_⟩) (by assumption) ?_
  · intro W hW; have kk : W.cell? ⟨w.heap.size, 1, none⟩ = some (.int .i64 p) := gbx_cell (KX.out W hW) 1; go_simp
  try simp only [List.getElem_toArray, List.getElem_cons_zero, List.getElem_cons_succ, Act.put, List.setIfInBounds_toArray, List.set_cons_zero, List.set_cons_succ]
  refine wpAnyH_take (i := 7) (v := .pointer (some ⟨w.heap.size, 2, none⟩)) rfl (by kernel_rfl) (by kernel_rfl) (by kernel_rfl) (fun _ _ _ h => h) (.inl ⟨by rfl, ?_⟩) (by assumption) ?_
  · intro W hW; go_simp
  try simp only [List.getElem_toArray, List.getElem_cons_zero, List.getElem_cons_succ, Act.put, List.setIfInBounds_toArray, List.set_cons_zero, List.set_cons_succ]
  refine wpAnyH_take (i := 8) (v := .int .i64 u) rfl (by kernel_rfl) (by kernel_rfl) (by kernel_rfl) (fun _ _ _ h => h) (.inl ⟨by rfl, ?_⟩) (by assumption) ?_
  · intro W hW; have kk : W.cell? ⟨w.heap.size, 2, none⟩ = some (.int .i64 u) := gbx_cell (KX.out W hW) 2; go_simp
  try simp only [List.getElem_toArray, List.getElem_cons_zero, List.getElem_cons_succ, Act.put, List.setIfInBounds_toArray, List.set_cons_zero, List.set_cons_succ]
  refine wpAnyH_ready (rs := [2, 11]) (by decide +kernel) (by simp) ((AllReadyH.cons rfl (fun KQ hK => ?_) (AllReadyH.cons rfl (fun KQ hK => ?_) AllReadyH.nil)))
  · go_simp
    refine (O1.out _).mono ?_; rintro e0 V1 ⟨rfl, q1⟩
    have HB1 := Lib.hid (HB0.out.trans (q1.2.mono HB0.out.size))
    refine hK.out _ _ HB1.out (fun _ => ?_)
    clear hK q1
    try simp only [List.getElem_toArray, List.getElem_cons_zero, List.getElem_cons_succ, Act.put, List.setIfInBounds_toArray, List.set_cons_zero, List.set_cons_succ]
    refine wpAnyH_ready (rs := [5, 11]) (by decide +kernel) (by simp) ((AllReadyH.cons rfl (fun KQ hK => ?_) (AllReadyH.cons rfl (fun KQ hK => ?_) AllReadyH.nil)))
    · go_simp
      refine (O2.out _).mono ?_; rintro e0 V2 ⟨rfl, q1⟩
      have HB2 := Lib.hid (HB1.out.trans (q1.2.mono HB1.out.size))
      refine hK.out _ _ HB2.out (fun _ => ?_)
      clear hK q1
      try simp only [List.getElem_toArray, List.getElem_cons_zero, List.getElem_cons_succ, Act.put, List.setIfInBounds_toArray, List.set_cons_zero, List.set_cons_succ]
      refine wpAnyH_ready (rs := [6, 11]) (by decide +kernel) (by simp) ((AllReadyH.cons rfl (fun KQ hK => ?_) (AllReadyH.cons rfl (fun KQ hK => ?_) AllReadyH.nil)))
      · go_simp
        refine (P1.out _).mono ?_; rintro e0 V3 ⟨⟨u1, N1, rfl, a0, a1, a2⟩, q1⟩
        have HB3 := Lib.hid (HB2.out.trans (q1.2.mono HB2.out.size))
        have NN : Hid (0 ≤ N1 ∧ N1 ≤ 18446744073709551616 ∧ sgn u1 N1 = m + p) := Lib.hid ⟨a0, a1, a2⟩
        clear a0 a1 a2
        refine hK.out _ _ HB3.out (fun _ => ?_)
        clear hK q1
        try simp only [List.getElem_toArray, List.getElem_cons_zero, List.getElem_cons_succ, Act.put, List.setIfInBounds_toArray, List.set_cons_zero, List.set_cons_succ]
        refine wpAnyH_ready (rs := [9, 11]) (by decide +kernel) (by simp) ((AllReadyH.cons rfl (fun KQ hK => ?_) (AllReadyH.cons rfl (fun KQ hK => ?_) AllReadyH.nil)))
        · go_simp
          refine (O3.out _).mono ?_; rintro e0 V4 ⟨rfl, q1⟩
          have HB4 := Lib.hid (HB3.out.trans (q1.2.mono HB3.out.size))
          refine hK.out _ _ HB4.out (fun _ => ?_)
          clear hK q1
          try simp only [List.getElem_toArray, List.getElem_cons_zero, List.getElem_cons_succ, Act.put, List.setIfInBounds_toArray, List.set_cons_zero, List.set_cons_succ]
          refine wpAnyH_ready (rs := [10, 11]) (by decide +kernel) (by simp) ((AllReadyH.cons rfl (fun KQ hK => ?_) (AllReadyH.cons rfl (fun KQ hK => ?_) AllReadyH.nil)))
          · go_simp
            refine (P2.out u1 N1 NN.out.1 NN.out.2.1 _).mono ?_; rintro e0 V5 ⟨⟨u2, N2, rfl, b0, b1, b2⟩, q1⟩
            have HB5 := Lib.hid (HB4.out.trans (q1.2.mono HB4.out.size))
            have MM : Hid (0 ≤ N2 ∧ N2 ≤ 27670116110564327424 ∧ sgn u2 N2 = m + p + u) := Lib.hid ⟨b0, b1, by rw [b2, NN.out.2.2]⟩
            clear b0 b1 b2
            refine hK.out _ _ HB5.out (fun _ => ?_)
            clear hK q1
            try simp only [List.getElem_toArray, List.getElem_cons_zero, List.getElem_cons_succ, Act.put, List.setIfInBounds_toArray, List.set_cons_zero, List.set_cons_succ]
            refine wpAnyH_ready (rs := [11]) (by decide +kernel) (by simp) ((AllReadyH.cons rfl (fun KQ hK => ?_) AllReadyH.nil))
            go_simp
            obtain ⟨V6, hV6⟩ : ∃ V, V5.alloc (.cells (nm false fun _ => 0) 58) = V := ⟨_, rfl⟩
            have RW6 : Hid (Row V6 V5.heap.size 58 (nm false fun _ => 0)) := Lib.hid (by rw [← hV6]; exact Row.new V5 _ _)
            have HB6 : Hid (Below W1.heap.size W1 V6) := Lib.hid (HB5.out.trans ((show Below V5.heap.size V5 V6 by rw [← hV6]; exact below_new V5 _).mono HB5.out.size))
            have GG : Hid (W1.heap.size ≤ V5.heap.size) := Lib.hid HB5.out.size
            rw [show V5.alloc (.cells (nm false fun _ => 0) 58) = V6 from hV6]
            refine hK.out _ _ HB6.out (fun _ => ?_)
            clear hK hV6
            try simp only [List.getElem_toArray, List.getElem_cons_zero, List.getElem_cons_succ, Act.put, List.setIfInBounds_toArray, List.set_cons_zero, List.set_cons_succ]
            refine wpAnyH_ready (rs := [12]) (by decide +kernel) (by simp) ((AllReadyH.cons rfl (fun KQ hK => ?_) AllReadyH.nil))
            rw [if_pos (by rfl)]
            refine wp_store_row 58 (.tmp 3) (.tmp 16) rfl V5.heap.size (nm u2 (dgs N2)) rfl rfl 58 _ RW6.out (by kernel_rfl) rfl (nm_one _ _) ?_
            have RZ := Lib.hid (RW6.out.whole (nm u2 (dgs N2)))
            have HZ := Lib.hid (below_row0 (g := V5.heap.size) (cs := nm u2 (dgs N2)) HB6.out GG.out)
            obtain ⟨V9, hV9⟩ : ∃ V9, V6.setRow V5.heap.size (nm u2 (dgs N2)) = V9 := ⟨_, rfl⟩
            rw [hV9] at RZ HZ
            rw [hV9]
            refine hK.out _ _ HZ.out (fun _ => ?_)
            clear hK hV9
            try simp only [List.getElem_toArray, List.getElem_cons_zero, List.getElem_cons_succ, Act.put, List.setIfInBounds_toArray, List.set_cons_zero, List.set_cons_succ]
            refine wpAnyH_done (by decide +kernel) ?_ _
            obtain ⟨gg, hgg⟩ : ∃ g, V5.heap.size = g := ⟨_, rfl⟩
            rw [hgg] at RZ ⊢
            clear hgg
            have c0 := RZ.out.sign
            have IN := Lib.hid (I1.out u2 N2 MM.out.1 MM.out.2.1)
            rw [MM.out.2.2] at IN
            go_wp2_with (refine wpList_load_row rfl 58 _ rfl gg rfl 58 _ (0, 0) _ RZ.out Try.underlying58 rfl (by kernel_rfl) ?_)
            refine (IN.out _).mono ?_; rintro e w9 ⟨rfl, q9⟩
            have Q9 := Lib.hid (B1.out.trans ((HZ.out.trans (q9.2.mono HZ.out.size)).mono B1.out.size))
            have c1 := (RZ.out.below q9.2 RZ.out.lt).sign
            have MG := MM.out
            clear q9 c0
            have FIN := Lib.hid (total_fin11 MM.out)
            clear MG
            cases ho : tO (m + p + u)
            · rw [ho] at FIN
              cases u2
              · go_wp2_with fail
                go_ret
                rw [FIN.out]
                exact ⟨rfl, Q9.out⟩
              · go_wp2_with fail
                go_ret
                rw [FIN.out]
                exact ⟨rfl, Q9.out⟩
            · rw [ho] at FIN
              obtain ⟨tt, htt⟩ : ∃ t, tN (m + p + u) = t := ⟨_, rfl⟩
              rw [htt] at FIN ⊢
              go_wp2_with fail
              go_ret
              rw [FIN.out]
              exact ⟨rfl, Q9.out⟩
          · go_simp
            obtain ⟨V7, hV7⟩ : ∃ V, V4.alloc (.cells (nm false fun _ => 0) 58) = V := ⟨_, rfl⟩
            have RW5 : Hid (Row V7 V4.heap.size 58 (nm false fun _ => 0)) := Lib.hid (by rw [← hV7]; exact Row.new V4 _ _)
            have HB5 : Hid (Below W1.heap.size W1 V7) := Lib.hid (HB4.out.trans ((show Below V4.heap.size V4 V7 by rw [← hV7]; exact below_new V4 _).mono HB4.out.size))
            have GG : Hid (W1.heap.size ≤ V4.heap.size) := Lib.hid HB4.out.size
            rw [show V4.alloc (.cells (nm false fun _ => 0) 58) = V7 from hV7]
            refine hK.out _ _ HB5.out (fun _ => ?_)
            clear hK hV7
            try simp only [List.getElem_toArray, List.getElem_cons_zero, List.getElem_cons_succ, Act.put, List.setIfInBounds_toArray, List.set_cons_zero, List.set_cons_succ]
            refine wpAnyH_ready (rs := [10]) (by decide +kernel) (by simp) ((AllReadyH.cons rfl (fun KQ hK => ?_) AllReadyH.nil))
            go_simp
            refine (P2.out u1 N1 NN.out.1 NN.out.2.1 _).mono ?_; rintro e0 V8 ⟨⟨u2, N2, rfl, b0, b1, b2⟩, q1⟩
            have HB6 := Lib.hid (HB5.out.trans (q1.2.mono HB5.out.size))
            have RW6 := Lib.hid (RW5.out.below q1.2 RW5.out.lt)
            have MM : Hid (0 ≤ N2 ∧ N2 ≤ 27670116110564327424 ∧ sgn u2 N2 = m + p + u) := Lib.hid ⟨b0, b1, by rw [b2, NN.out.2.2]⟩
            clear b0 b1 b2
            refine hK.out _ _ HB6.out (fun _ => ?_)
            clear hK q1
            try simp only [List.getElem_toArray, List.getElem_cons_zero, List.getElem_cons_succ, Act.put, List.setIfInBounds_toArray, List.set_cons_zero, List.set_cons_succ]
            refine wpAnyH_ready (rs := [12]) (by decide +kernel) (by simp) ((AllReadyH.cons rfl (fun KQ hK => ?_) AllReadyH.nil))
            rw [if_pos (by rfl)]
            refine wp_store_row 58 (.tmp 3) (.tmp 16) rfl V4.heap.size (nm u2 (dgs N2)) rfl rfl 58 _ RW6.out (by kernel_rfl) rfl (nm_one _ _) ?_
            have RZ := Lib.hid (RW6.out.whole (nm u2 (dgs N2)))
            have HZ := Lib.hid (below_row0 (g := V4.heap.size) (cs := nm u2 (dgs N2)) HB6.out GG.out)
            obtain ⟨V9, hV9⟩ : ∃ V9, V8.setRow V4.heap.size (nm u2 (dgs N2)) = V9 := ⟨_, rfl⟩
            rw [hV9] at RZ HZ
            rw [hV9]
            refine hK.out _ _ HZ.out (fun _ => ?_)
            clear hK hV9
            try simp only [List.getElem_toArray, List.getElem_cons_zero, List.getElem_cons_succ, Act.put, List.setIfInBounds_toArray, List.set_cons_zero, List.set_cons_succ]
            refine wpAnyH_done (by decide +kernel) ?_ _
            obtain ⟨gg, hgg⟩ : ∃ g, V4.heap.size = g := ⟨_, rfl⟩
            rw [hgg] at RZ ⊢
            clear hgg
            have c0 := RZ.out.sign
            have IN := Lib.hid (I1.out u2 N2 MM.out.1 MM.out.2.1)
            rw [MM.out.2.2] at IN
            go_wp2_with (refine wpList_load_row rfl 58 _ rfl gg rfl 58 _ (0, 0) _ RZ.out Try.underlying58 rfl (by kernel_rfl) ?_)
            refine (IN.out _).mono ?_; rintro e w9 ⟨rfl, q9⟩
            have Q9 := Lib.hid (B1.out.trans ((HZ.out.trans (q9.2.mono HZ.out.size)).mono B1.out.size))
            have c1 := (RZ.out.below q9.2 RZ.out.lt).sign
            have MG := MM.out
            clear q9 c0
            have FIN := Lib.hid (total_fin11 MM.out)
            clear MG
            cases ho : tO (m + p + u)
            · rw [ho] at FIN
              cases u2
              · go_wp2_with fail
                go_ret
                rw [FIN.out]
                exact ⟨rfl, Q9.out⟩
              · go_wp2_with fail
                go_ret
                rw [FIN.out]
                exact ⟨rfl, Q9.out⟩
            · rw [ho] at FIN
              obtain ⟨tt, htt⟩ : ∃ t, tN (m + p + u) = t := ⟨_, rfl⟩
              rw [htt] at FIN ⊢
              go_wp2_with fail
              go_ret
              rw [FIN.out]
              exact ⟨rfl, Q9.out⟩
        · go_simp
          obtain ⟨V9, hV9⟩ : ∃ V, V3.alloc (.cells (nm false fun _ => 0) 58) = V := ⟨_, rfl⟩
          have RW4 : Hid (Row V9 V3.heap.size 58 (nm false fun _ => 0)) := Lib.hid (by rw [← hV9]; exact Row.new V3 _ _)
          have HB4 : Hid (Below W1.heap.size W1 V9) := Lib.hid (HB3.out.trans ((show Below V3.heap.size V3 V9 by rw [← hV9]; exact below_new V3 _).mono HB3.out.size))
          have GG : Hid (W1.heap.size ≤ V3.heap.size) := Lib.hid HB3.out.size
          rw [show V3.alloc (.cells (nm false fun _ => 0) 58) = V9 from hV9]
          refine hK.out _ _ HB4.out (fun _ => ?_)
          clear hK hV9
          try simp only [List.getElem_toArray, List.getElem_cons_zero, List.getElem_cons_succ, Act.put, List.setIfInBounds_toArray, List.set_cons_zero, List.set_cons_succ]
          refine wpAnyH_ready (rs := [9]) (by decide +kernel) (by simp) ((AllReadyH.cons rfl (fun KQ hK => ?_) AllReadyH.nil))
          go_simp
          refine (O3.out _).mono ?_; rintro e0 V10 ⟨rfl, q1⟩
          have HB5 := Lib.hid (HB4.out.trans (q1.2.mono HB4.out.size))
          have RW5 := Lib.hid (RW4.out.below q1.2 RW4.out.lt)
          refine hK.out _ _ HB5.out (fun _ => ?_)
          clear hK q1
          try simp only [List.getElem_toArray, List.getElem_cons_zero, List.getElem_cons_succ, Act.put, List.setIfInBounds_toArray, List.set_cons_zero, List.set_cons_succ]
          refine wpAnyH_ready (rs := [10]) (by decide +kernel) (by simp) ((AllReadyH.cons rfl (fun KQ hK => ?_) AllReadyH.nil))
          go_simp
          refine (P2.out u1 N1 NN.out.1 NN.out.2.1 _).mono ?_; rintro e0 V11 ⟨⟨u2, N2, rfl, b0, b1, b2⟩, q1⟩
          have HB6 := Lib.hid (HB5.out.trans (q1.2.mono HB5.out.size))
          have RW6 := Lib.hid (RW5.out.below q1.2 RW5.out.lt)
          have MM : Hid (0 ≤ N2 ∧ N2 ≤ 27670116110564327424 ∧ sgn u2 N2 = m + p + u) := Lib.hid ⟨b0, b1, by rw [b2, NN.out.2.2]⟩
          clear b0 b1 b2
          refine hK.out _ _ HB6.out (fun _ => ?_)
          clear hK q1
          try simp only [List.getElem_toArray, List.getElem_cons_zero, List.getElem_cons_succ, Act.put, List.setIfInBounds_toArray, List.set_cons_zero, List.set_cons_succ]
          refine wpAnyH_ready (rs := [12]) (by decide +kernel) (by simp) ((AllReadyH.cons rfl (fun KQ hK => ?_) AllReadyH.nil))
          rw [if_pos (by rfl)]
          refine wp_store_row 58 (.tmp 3) (.tmp 16) rfl V3.heap.size (nm u2 (dgs N2)) rfl rfl 58 _ RW6.out (by kernel_rfl) rfl (nm_one _ _) ?_
          have RZ := Lib.hid (RW6.out.whole (nm u2 (dgs N2)))
          have HZ := Lib.hid (below_row0 (g := V3.heap.size) (cs := nm u2 (dgs N2)) HB6.out GG.out)
          obtain ⟨V9, hV9⟩ : ∃ V9, V11.setRow V3.heap.size (nm u2 (dgs N2)) = V9 := ⟨_, rfl⟩
          rw [hV9] at RZ HZ
          rw [hV9]
          refine hK.out _ _ HZ.out (fun _ => ?_)
          clear hK hV9
          try simp only [List.getElem_toArray, List.getElem_cons_zero, List.getElem_cons_succ, Act.put, List.setIfInBounds_toArray, List.set_cons_zero, List.set_cons_succ]
          refine wpAnyH_done (by decide +kernel) ?_ _
          obtain ⟨gg, hgg⟩ : ∃ g, V3.heap.size = g := ⟨_, rfl⟩
          rw [hgg] at RZ ⊢
          clear hgg
          have c0 := RZ.out.sign
          have IN := Lib.hid (I1.out u2 N2 MM.out.1 MM.out.2.1)
          rw [MM.out.2.2] at IN
          go_wp2_with (refine wpList_load_row rfl 58 _ rfl gg rfl 58 _ (0, 0) _ RZ.out Try.underlying58 rfl (by kernel_rfl) ?_)
          refine (IN.out _).mono ?_; rintro e w9 ⟨rfl, q9⟩
          have Q9 := Lib.hid (B1.out.trans ((HZ.out.trans (q9.2.mono HZ.out.size)).mono B1.out.size))
          have c1 := (RZ.out.below q9.2 RZ.out.lt).sign
          have MG := MM.out
          clear q9 c0
          have FIN := Lib.hid (total_fin11 MM.out)
          clear MG
          cases ho : tO (m + p + u)
          · rw [ho] at FIN
            cases u2
            · go_wp2_with fail
              go_ret
              rw [FIN.out]
              exact ⟨rfl, Q9.out⟩
            · go_wp2_with fail
              go_ret
              rw [FIN.out]
              exact ⟨rfl, Q9.out⟩
          · rw [ho] at FIN
            obtain ⟨tt, htt⟩ : ∃ t, tN (m + p + u) = t := ⟨_, rfl⟩
            rw [htt] at FIN ⊢
            go_wp2_with fail
            go_ret
            rw [FIN.out]
            exact ⟨rfl, Q9.out⟩
      · go_simp
        obtain ⟨V12, hV12⟩ : ∃ V, V2.alloc (.cells (nm false fun _ => 0) 58) = V := ⟨_, rfl⟩
        have RW3 : Hid (Row V12 V2.heap.size 58 (nm false fun _ => 0)) := Lib.hid (by rw [← hV12]; exact Row.new V2 _ _)
        have HB3 : Hid (Below W1.heap.size W1 V12) := Lib.hid (HB2.out.trans ((show Below V2.heap.size V2 V12 by rw [← hV12]; exact below_new V2 _).mono HB2.out.size))
        have GG : Hid (W1.heap.size ≤ V2.heap.size) := Lib.hid HB2.out.size
        rw [show V2.alloc (.cells (nm false fun _ => 0) 58) = V12 from hV12]
        refine hK.out _ _ HB3.out (fun _ => ?_)
        clear hK hV12
        try simp only [List.getElem_toArray, List.getElem_cons_zero, List.getElem_cons_succ, Act.put, List.setIfInBounds_toArray, List.set_cons_zero, List.set_cons_succ]
        refine wpAnyH_ready (rs := [6]) (by decide +kernel) (by simp) ((AllReadyH.cons rfl (fun KQ hK => ?_) AllReadyH.nil))
        go_simp
        refine (P1.out _).mono ?_; rintro e0 V13 ⟨⟨u1, N1, rfl, a0, a1, a2⟩, q1⟩
        have HB4 := Lib.hid (HB3.out.trans (q1.2.mono HB3.out.size))
        have RW4 := Lib.hid (RW3.out.below q1.2 RW3.out.lt)
        have NN : Hid (0 ≤ N1 ∧ N1 ≤ 18446744073709551616 ∧ sgn u1 N1 = m + p) := Lib.hid ⟨a0, a1, a2⟩
        clear a0 a1 a2
        refine hK.out _ _ HB4.out (fun _ => ?_)
        clear hK q1
        try simp only [List.getElem_toArray, List.getElem_cons_zero, List.getElem_cons_succ, Act.put, List.setIfInBounds_toArray, List.set_cons_zero, List.set_cons_succ]
        refine wpAnyH_ready (rs := [9]) (by decide +kernel) (by simp) ((AllReadyH.cons rfl (fun KQ hK => ?_) AllReadyH.nil))
        go_simp
        refine (O3.out _).mono ?_; rintro e0 V14 ⟨rfl, q1⟩
        have HB5 := Lib.hid (HB4.out.trans (q1.2.mono HB4.out.size))
        have RW5 := Lib.hid (RW4.out.below q1.2 RW4.out.lt)
        refine hK.out _ _ HB5.out (fun _ => ?_)
        clear hK q1
        try simp only [List.getElem_toArray, List.getElem_cons_zero, List.getElem_cons_succ, Act.put, List.setIfInBounds_toArray, List.set_cons_zero, List.set_cons_succ]
        refine wpAnyH_ready (rs := [10]) (by decide +kernel) (by simp) ((AllReadyH.cons rfl (fun KQ hK => ?_) AllReadyH.nil))
        go_simp
        refine (P2.out u1 N1 NN.out.1 NN.out.2.1 _).mono ?_; rintro e0 V15 ⟨⟨u2, N2, rfl, b0, b1, b2⟩, q1⟩
        have HB6 := Lib.hid (HB5.out.trans (q1.2.mono HB5.out.size))
        have RW6 := Lib.hid (RW5.out.below q1.2 RW5.out.lt)
        have MM : Hid (0 ≤ N2 ∧ N2 ≤ 27670116110564327424 ∧ sgn u2 N2 = m + p + u) := Lib.hid ⟨b0, b1, by rw [b2, NN.out.2.2]⟩
        clear b0 b1 b2
        refine hK.out _ _ HB6.out (fun _ => ?_)
        clear hK q1
        try simp only [List.getElem_toArray, List.getElem_cons_zero, List.getElem_cons_succ, Act.put, List.setIfInBounds_toArray, List.set_cons_zero, List.set_cons_succ]
        refine wpAnyH_ready (rs := [12]) (by decide +kernel) (by simp) ((AllReadyH.cons rfl (fun KQ hK => ?_) AllReadyH.nil))
        rw [if_pos (by rfl)]
        refine wp_store_row 58 (.tmp 3) (.tmp 16) rfl V2.heap.size (nm u2 (dgs N2)) rfl rfl 58 _ RW6.out (by kernel_rfl) rfl (nm_one _ _) ?_
        have RZ := Lib.hid (RW6.out.whole (nm u2 (dgs N2)))
        have HZ := Lib.hid (below_row0 (g := V2.heap.size) (cs := nm u2 (dgs N2)) HB6.out GG.out)
        obtain ⟨V9, hV9⟩ : ∃ V9, V15.setRow V2.heap.size (nm u2 (dgs N2)) = V9 := ⟨_, rfl⟩
        rw [hV9] at RZ HZ
        rw [hV9]
        refine hK.out _ _ HZ.out (fun _ => ?_)
        clear hK hV9
        try simp only [List.getElem_toArray, List.getElem_cons_zero, List.getElem_cons_succ, Act.put, List.setIfInBounds_toArray, List.set_cons_zero, List.set_cons_succ]
        refine wpAnyH_done (by decide +kernel) ?_ _
        obtain ⟨gg, hgg⟩ : ∃ g, V2.heap.size = g := ⟨_, rfl⟩
        rw [hgg] at RZ ⊢
        clear hgg
        have c0 := RZ.out.sign
        have IN := Lib.hid (I1.out u2 N2 MM.out.1 MM.out.2.1)
        rw [MM.out.2.2] at IN
        go_wp2_with (refine wpList_load_row rfl 58 _ rfl gg rfl 58 _ (0, 0) _ RZ.out Try.underlying58 rfl (by kernel_rfl) ?_)
        refine (IN.out _).mono ?_; rintro e w9 ⟨rfl, q9⟩
        have Q9 := Lib.hid (B1.out.trans ((HZ.out.trans (q9.2.mono HZ.out.size)).mono B1.out.size))
        have c1 := (RZ.out.below q9.2 RZ.out.lt).sign
        have MG := MM.out
        clear q9 c0
        have FIN := Lib.hid (total_fin11 MM.out)
        clear MG
        cases ho : tO (m + p + u)
        · rw [ho] at FIN
          cases u2
          · go_wp2_with fail
            go_ret
            rw [FIN.out]
            exact ⟨rfl, Q9.out⟩
          · go_wp2_with fail
            go_ret
            rw [FIN.out]
            exact ⟨rfl, Q9.out⟩
        · rw [ho] at FIN
          obtain ⟨tt, htt⟩ : ∃ t, tN (m + p + u) = t := ⟨_, rfl⟩
          rw [htt] at FIN ⊢
          go_wp2_with fail
          go_ret
          rw [FIN.out]
          exact ⟨rfl, Q9.out⟩
    · go_simp
      obtain ⟨V16, hV16⟩ : ∃ V, V1.alloc (.cells (nm false fun _ => 0) 58) = V := ⟨_, rfl⟩
      have RW2 : Hid (Row V16 V1.heap.size 58 (nm false fun _ => 0)) := Lib.hid (by rw [← hV16]; exact Row.new V1 _ _)
      have HB2 : Hid (Below W1.heap.size W1 V16) := Lib.hid (HB1.out.trans ((show Below V1.heap.size V1 V16 by rw [← hV16]; exact below_new V1 _).mono HB1.out.size))
      have GG : Hid (W1.heap.size ≤ V1.heap.size) := Lib.hid HB1.out.size
      rw [show V1.alloc (.cells (nm false fun _ => 0) 58) = V16 from hV16]
      refine hK.out _ _ HB2.out (fun _ => ?_)
      clear hK hV16
      try simp only [List.getElem_toArray, List.getElem_cons_zero, List.getElem_cons_succ, Act.put, List.setIfInBounds_toArray, List.set_cons_zero, List.set_cons_succ]
      refine wpAnyH_ready (rs := [5]) (by decide +kernel) (by simp) ((AllReadyH.cons rfl (fun KQ hK => ?_) AllReadyH.nil))
      go_simp
      refine (O2.out _).mono ?_; rintro e0 V17 ⟨rfl, q1⟩
      have HB3 := Lib.hid (HB2.out.trans (q1.2.mono HB2.out.size))
      have RW3 := Lib.hid (RW2.out.below q1.2 RW2.out.lt)
      refine hK.out _ _ HB3.out (fun _ => ?_)
      clear hK q1
      try simp only [List.getElem_toArray, List.getElem_cons_zero, List.getElem_cons_succ, Act.put, List.setIfInBounds_toArray, List.set_cons_zero, List.set_cons_succ]
      refine wpAnyH_ready (rs := [6]) (by decide +kernel) (by simp) ((AllReadyH.cons rfl (fun KQ hK => ?_) AllReadyH.nil))
      go_simp
      refine (P1.out _).mono ?_; rintro e0 V18 ⟨⟨u1, N1, rfl, a0, a1, a2⟩, q1⟩
      have HB4 := Lib.hid (HB3.out.trans (q1.2.mono HB3.out.size))
      have RW4 := Lib.hid (RW3.out.below q1.2 RW3.out.lt)
      have NN : Hid (0 ≤ N1 ∧ N1 ≤ 18446744073709551616 ∧ sgn u1 N1 = m + p) := Lib.hid ⟨a0, a1, a2⟩
      clear a0 a1 a2
      refine hK.out _ _ HB4.out (fun _ => ?_)
      clear hK q1
      try simp only [List.getElem_toArray, List.getElem_cons_zero, List.getElem_cons_succ, Act.put, List.setIfInBounds_toArray, List.set_cons_zero, List.set_cons_succ]
      refine wpAnyH_ready (rs := [9]) (by decide +kernel) (by simp) ((AllReadyH.cons rfl (fun KQ hK => ?_) AllReadyH.nil))
      go_simp
      refine (O3.out _).mono ?_; rintro e0 V19 ⟨rfl, q1⟩
      have HB5 := Lib.hid (HB4.out.trans (q1.2.mono HB4.out.size))
      have RW5 := Lib.hid (RW4.out.below q1.2 RW4.out.lt)
      refine hK.out _ _ HB5.out (fun _ => ?_)
      clear hK q1
      try simp only [List.getElem_toArray, List.getElem_cons_zero, List.getElem_cons_succ, Act.put, List.setIfInBounds_toArray, List.set_cons_zero, List.set_cons_succ]
      refine wpAnyH_ready (rs := [10]) (by decide +kernel) (by simp) ((AllReadyH.cons rfl (fun KQ hK => ?_) AllReadyH.nil))
      go_simp
      refine (P2.out u1 N1 NN.out.1 NN.out.2.1 _).mono ?_; rintro e0 V20 ⟨⟨u2, N2, rfl, b0, b1, b2⟩, q1⟩
      have HB6 := Lib.hid (HB5.out.trans (q1.2.mono HB5.out.size))
      have RW6 := Lib.hid (RW5.out.below q1.2 RW5.out.lt)
      have MM : Hid (0 ≤ N2 ∧ N2 ≤ 27670116110564327424 ∧ sgn u2 N2 = m + p + u) := Lib.hid ⟨b0, b1, by rw [b2, NN.out.2.2]⟩
      clear b0 b1 b2
      refine hK.out _ _ HB6.out (fun _ => ?_)
      clear hK q1
      try simp only [List.getElem_toArray, List.getElem_cons_zero, List.getElem_cons_succ, Act.put, List.setIfInBounds_toArray, List.set_cons_zero, List.set_cons_succ]
      refine wpAnyH_ready (rs := [12]) (by decide +kernel) (by simp) ((AllReadyH.cons rfl (fun KQ hK => ?_) AllReadyH.nil))
      rw [if_pos (by rfl)]
      refine wp_store_row 58 (.tmp 3) (.tmp 16) rfl V1.heap.size (nm u2 (dgs N2)) rfl rfl 58 _ RW6.out (by kernel_rfl) rfl (nm_one _ _) ?_
      have RZ := Lib.hid (RW6.out.whole (nm u2 (dgs N2)))
      have HZ := Lib.hid (below_row0 (g := V1.heap.size) (cs := nm u2 (dgs N2)) HB6.out GG.out)
      obtain ⟨V9, hV9⟩ : ∃ V9, V20.setRow V1.heap.size (nm u2 (dgs N2)) = V9 := ⟨_, rfl⟩
      rw [hV9] at RZ HZ
      rw [hV9]
      refine hK.out _ _ HZ.out (fun _ => ?_)
      clear hK hV9
      try simp only [List.getElem_toArray, List.getElem_cons_zero, List.getElem_cons_succ, Act.put, List.setIfInBounds_toArray, List.set_cons_zero, List.set_cons_succ]
      refine wpAnyH_done (by decide +kernel) ?_ _
      obtain ⟨gg, hgg⟩ : ∃ g, V1.heap.size = g := ⟨_, rfl⟩
      rw [hgg] at RZ ⊢
      clear hgg
      have c0 := RZ.out.sign
      have IN := Lib.hid (I1.out u2 N2 MM.out.1 MM.out.2.1)
      rw [MM.out.2.2] at IN
      go_wp2_with (refine wpList_load_row rfl 58 _ rfl gg rfl 58 _ (0, 0) _ RZ.out Try.underlying58 rfl (by kernel_rfl) ?_)
      refine (IN.out _).mono ?_; rintro e w9 ⟨rfl, q9⟩
      have Q9 := Lib.hid (B1.out.trans ((HZ.out.trans (q9.2.mono HZ.out.size)).mono B1.out.size))
      have c1 := (RZ.out.below q9.2 RZ.out.lt).sign
      have MG := MM.out
      clear q9 c0
      have FIN := Lib.hid (total_fin11 MM.out)
      clear MG
      cases ho : tO (m + p + u)
      · rw [ho] at FIN
        cases u2
        · go_wp2_with fail
          go_ret
          rw [FIN.out]
          exact ⟨rfl, Q9.out⟩
        · go_wp2_with fail
          go_ret
          rw [FIN.out]
          exact ⟨rfl, Q9.out⟩
      · rw [ho] at FIN
        obtain ⟨tt, htt⟩ : ∃ t, tN (m + p + u) = t := ⟨_, rfl⟩
        rw [htt] at FIN ⊢
        go_wp2_with fail
        go_ret
        rw [FIN.out]
        exact ⟨rfl, Q9.out⟩
  · go_simp
    obtain ⟨V21, hV21⟩ : ∃ V, W1.drew.alloc (.cells (nm false fun _ => 0) 58) = V := ⟨_, rfl⟩
    have RW1 : Hid (Row V21 W1.heap.size 58 (nm false fun _ => 0)) := Lib.hid (by rw [← hV21]; exact Row.new W1.drew _ _)
    have HB1 : Hid (Below W1.heap.size W1 V21) := Lib.hid (HB0.out.trans ((show Below W1.drew.heap.size W1.drew V21 by rw [← hV21]; exact below_new W1.drew _).mono HB0.out.size))
    have GG : Hid (W1.heap.size ≤ W1.heap.size) := Lib.hid HB0.out.size
    rw [show (W1.alloc (.cells (nm false fun _ => 0) 58)).drew = V21 from hV21]
    refine hK.out _ _ HB1.out (fun _ => ?_)
    clear hK hV21
    try simp only [List.getElem_toArray, List.getElem_cons_zero, List.getElem_cons_succ, Act.put, List.setIfInBounds_toArray, List.set_cons_zero, List.set_cons_succ]
    refine wpAnyH_ready (rs := [2]) (by decide +kernel) (by simp) ((AllReadyH.cons rfl (fun KQ hK => ?_) AllReadyH.nil))
    go_simp
    refine (O1.out _).mono ?_; rintro e0 V22 ⟨rfl, q1⟩
    have HB2 := Lib.hid (HB1.out.trans (q1.2.mono HB1.out.size))
    have RW2 := Lib.hid (RW1.out.below q1.2 RW1.out.lt)
    refine hK.out _ _ HB2.out (fun _ => ?_)
    clear hK q1
    try simp only [List.getElem_toArray, List.getElem_cons_zero, List.getElem_cons_succ, Act.put, List.setIfInBounds_toArray, List.set_cons_zero, List.set_cons_succ]
    refine wpAnyH_ready (rs := [5]) (by decide +kernel) (by simp) ((AllReadyH.cons rfl (fun KQ hK => ?_) AllReadyH.nil))
    go_simp
    refine (O2.out _).mono ?_; rintro e0 V23 ⟨rfl, q1⟩
    have HB3 := Lib.hid (HB2.out.trans (q1.2.mono HB2.out.size))
    have RW3 := Lib.hid (RW2.out.below q1.2 RW2.out.lt)
    refine hK.out _ _ HB3.out (fun _ => ?_)
    clear hK q1
    try simp only [List.getElem_toArray, List.getElem_cons_zero, List.getElem_cons_succ, Act.put, List.setIfInBounds_toArray, List.set_cons_zero, List.set_cons_succ]
    refine wpAnyH_ready (rs := [6]) (by decide +kernel) (by simp) ((AllReadyH.cons rfl (fun KQ hK => ?_) AllReadyH.nil))
    go_simp
    refine (P1.out _).mono ?_; rintro e0 V24 ⟨⟨u1, N1, rfl, a0, a1, a2⟩, q1⟩
    have HB4 := Lib.hid (HB3.out.trans (q1.2.mono HB3.out.size))
    have RW4 := Lib.hid (RW3.out.below q1.2 RW3.out.lt)
    have NN : Hid (0 ≤ N1 ∧ N1 ≤ 18446744073709551616 ∧ sgn u1 N1 = m + p) := Lib.hid ⟨a0, a1, a2⟩
    clear a0 a1 a2
    refine hK.out _ _ HB4.out (fun _ => ?_)
    clear hK q1
    try simp only [List.getElem_toArray, List.getElem_cons_zero, List.getElem_cons_succ, Act.put, List.setIfInBounds_toArray, List.set_cons_zero, List.set_cons_succ]
    refine wpAnyH_ready (rs := [9]) (by decide +kernel) (by simp) ((AllReadyH.cons rfl (fun KQ hK => ?_) AllReadyH.nil))
    go_simp
    refine (O3.out _).mono ?_; rintro e0 V25 ⟨rfl, q1⟩
    have HB5 := Lib.hid (HB4.out.trans (q1.2.mono HB4.out.size))
    have RW5 := Lib.hid (RW4.out.below q1.2 RW4.out.lt)
    refine hK.out _ _ HB5.out (fun _ => ?_)
    clear hK q1
    try simp only [List.getElem_toArray, List.getElem_cons_zero, List.getElem_cons_succ, Act.put, List.setIfInBounds_toArray, List.set_cons_zero, List.set_cons_succ]
    refine wpAnyH_ready (rs := [10]) (by decide +kernel) (by simp) ((AllReadyH.cons rfl (fun KQ hK => ?_) AllReadyH.nil))
    go_simp
    refine (P2.out u1 N1 NN.out.1 NN.out.2.1 _).mono ?_; rintro e0 V26 ⟨⟨u2, N2, rfl, b0, b1, b2⟩, q1⟩
    have HB6 := Lib.hid (HB5.out.trans (q1.2.mono HB5.out.size))
    have RW6 := Lib.hid (RW5.out.below q1.2 RW5.out.lt)
    have MM : Hid (0 ≤ N2 ∧ N2 ≤ 27670116110564327424 ∧ sgn u2 N2 = m + p + u) := Lib.hid ⟨b0, b1, by rw [b2, NN.out.2.2]⟩
    clear b0 b1 b2
    refine hK.out _ _ HB6.out (fun _ => ?_)
    clear hK q1
    try simp only [List.getElem_toArray, List.getElem_cons_zero, List.getElem_cons_succ, Act.put, List.setIfInBounds_toArray, List.set_cons_zero, List.set_cons_succ]
    refine wpAnyH_ready (rs := [12]) (by decide +kernel) (by simp) ((AllReadyH.cons rfl (fun KQ hK => ?_) AllReadyH.nil))
    rw [if_pos (by rfl)]
    refine wp_store_row 58 (.tmp 3) (.tmp 16) rfl W1.heap.size (nm u2 (dgs N2)) rfl rfl 58 _ RW6.out (by kernel_rfl) rfl (nm_one _ _) ?_
    have RZ := Lib.hid (RW6.out.whole (nm u2 (dgs N2)))
    have HZ := Lib.hid (below_row0 (g := W1.heap.size) (cs := nm u2 (dgs N2)) HB6.out GG.out)
    obtain ⟨V9, hV9⟩ : ∃ V9, V26.setRow W1.heap.size (nm u2 (dgs N2)) = V9 := ⟨_, rfl⟩
    rw [hV9] at RZ HZ
    rw [hV9]
    refine hK.out _ _ HZ.out (fun _ => ?_)
    clear hK hV9
    try simp only [List.getElem_toArray, List.getElem_cons_zero, List.getElem_cons_succ, Act.put, List.setIfInBounds_toArray, List.set_cons_zero, List.set_cons_succ]
    refine wpAnyH_done (by decide +kernel) ?_ _
    obtain ⟨gg, hgg⟩ : ∃ g, W1.heap.size = g := ⟨_, rfl⟩
    rw [hgg] at RZ ⊢
    clear hgg
    have c0 := RZ.out.sign
    have IN := Lib.hid (I1.out u2 N2 MM.out.1 MM.out.2.1)
    rw [MM.out.2.2] at IN
    go_wp2_with (refine wpList_load_row rfl 58 _ rfl gg rfl 58 _ (0, 0) _ RZ.out Try.underlying58 rfl (by kernel_rfl) ?_)
    refine (IN.out _).mono ?_; rintro e w9 ⟨rfl, q9⟩
    have Q9 := Lib.hid (B1.out.trans ((HZ.out.trans (q9.2.mono HZ.out.size)).mono B1.out.size))
    have c1 := (RZ.out.below q9.2 RZ.out.lt).sign
    have MG := MM.out
    clear q9 c0
    have FIN := Lib.hid (total_fin11 MM.out)
    clear MG
    cases ho : tO (m + p + u)
    · rw [ho] at FIN
      cases u2
      · go_wp2_with fail
        go_ret
        rw [FIN.out]
        exact ⟨rfl, Q9.out⟩
      · go_wp2_with fail
        go_ret
        rw [FIN.out]
        exact ⟨rfl, Q9.out⟩
    · rw [ho] at FIN
      obtain ⟨tt, htt⟩ : ∃ t, tN (m + p + u) = t := ⟨_, rfl⟩
      rw [htt] at FIN ⊢
      go_wp2_with fail
      go_ret
      rw [FIN.out]
      exact ⟨rfl, Q9.out⟩
end Go.Proofs.Ytcpcnjiphiokjaa
