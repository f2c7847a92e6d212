/- Contracts of the program's own calls: whether a contract's data may be, a price, a quantity, within the band. -/
import Derived.Test.YtlnakhbcefmiaaaGb
import Derived.Test.YtlnakhbcefmiaaaQn
namespace Go.Proofs.Ytlnakhbcefmiaaa
open Go.RowKit

theorem wl_load_arrg {ops : Array Oper} {rest : List Oper} {a : Act} {w : World} {Q : Exit → Act → World → Prop} {d : Option Nat} {x : Operand} {ty : TypeId} {ps : String} {af : Array Edge} {gd : Option (Nat × Bool)} {s : Sp} (g : Nat) (hb : Box w g s)
    (hw : Region.wanted ⟨d, .load 23 x, ty, ps, af, gd⟩ (yielded ops a.tmps) = true) (hx : a.eval x = .pointer (some ⟨g, 6, none⟩))
    (h : wpList Try.prog ops Q rest (a.put d (.agg s.arr)) w) : wpList Try.prog ops Q (⟨d, .load 23 x, ty, ps, af, gd⟩ :: rest) a w :=
  BigFrame.wpList_want hw fun _ hK => wp_load_mid 23 x rfl g 6 hx (s.sh.map (Value.int .i64)) _ hb.range Try.underlying23 rfl (by rw [info_arr, List.length_map, hb.2]) (hK _ _ h)
theorem may_split (s : Sp) : mayB s = (decide (s.nu ≠ 0) && amB s.ro 1 8 && amB s.ti 1 10000000 && amB s.lo 1 1000000 && amB s.ba 0 10000000 && amB s.li 1 10000000 && shB s.sh && amB s.cr 0 10000000 && stB s.fi s.ti 10000000) := by
  unfold mayB headB shB stB prB
  cases amB s.cr 0 10000000 <;> simp [Bool.and_assoc]
theorem may_fails {s : Sp} (h : mayB s = false) : s.nu = 0 ∨
    (s.nu ≠ 0 ∧ amB s.ro 1 8 = false) ∨
    (s.nu ≠ 0 ∧ amB s.ro 1 8 = true ∧ amB s.ti 1 10000000 = false) ∨
    (s.nu ≠ 0 ∧ amB s.ro 1 8 = true ∧ amB s.ti 1 10000000 = true ∧ amB s.lo 1 1000000 = false) ∨
    (s.nu ≠ 0 ∧ amB s.ro 1 8 = true ∧ amB s.ti 1 10000000 = true ∧ amB s.lo 1 1000000 = true ∧ amB s.ba 0 10000000 = false) ∨
    (s.nu ≠ 0 ∧ amB s.ro 1 8 = true ∧ amB s.ti 1 10000000 = true ∧ amB s.lo 1 1000000 = true ∧ amB s.ba 0 10000000 = true ∧ amB s.li 1 10000000 = false) ∨
    (s.nu ≠ 0 ∧ amB s.ro 1 8 = true ∧ amB s.ti 1 10000000 = true ∧ amB s.lo 1 1000000 = true ∧ amB s.ba 0 10000000 = true ∧ amB s.li 1 10000000 = true ∧ shB s.sh = false) ∨
    (s.nu ≠ 0 ∧ amB s.ro 1 8 = true ∧ amB s.ti 1 10000000 = true ∧ amB s.lo 1 1000000 = true ∧ amB s.ba 0 10000000 = true ∧ amB s.li 1 10000000 = true ∧ shB s.sh = true ∧ amB s.cr 0 10000000 = false) ∨
    (s.nu ≠ 0 ∧ amB s.ro 1 8 = true ∧ amB s.ti 1 10000000 = true ∧ amB s.lo 1 1000000 = true ∧ amB s.ba 0 10000000 = true ∧ amB s.li 1 10000000 = true ∧ shB s.sh = true ∧ amB s.cr 0 10000000 = true ∧ stB s.fi s.ti 10000000 = false) := by
  rw [may_split] at h
  by_cases a : s.nu = 0
  · exact .inl a
  rw [decide_eq_true a] at h
  refine .inr ?_
  cases c1 : amB s.ro 1 8
  · exact .inl ⟨a, rfl⟩
  refine .inr ?_
  cases c2 : amB s.ti 1 10000000
  · exact .inl ⟨a, rfl, rfl⟩
  refine .inr ?_
  cases c3 : amB s.lo 1 1000000
  · exact .inl ⟨a, rfl, rfl, rfl⟩
  refine .inr ?_
  cases c4 : amB s.ba 0 10000000
  · exact .inl ⟨a, rfl, rfl, rfl, rfl⟩
  refine .inr ?_
  cases c5 : amB s.li 1 10000000
  · exact .inl ⟨a, rfl, rfl, rfl, rfl, rfl⟩
  refine .inr ?_
  cases c6 : shB s.sh
  · exact .inl ⟨a, rfl, rfl, rfl, rfl, rfl, rfl⟩
  refine .inr ?_
  cases c7 : amB s.cr 0 10000000
  · exact .inl ⟨a, rfl, rfl, rfl, rfl, rfl, rfl, rfl⟩
  refine .inr ⟨a, rfl, rfl, rfl, rfl, rfl, rfl, rfl, ?_⟩
  rw [c1, c2, c3, c4, c5, c6, c7] at h
  simpa using h
theorem may_holds {s : Sp} (h : mayB s = true) : s.nu ≠ 0 ∧ amB s.ro 1 8 = true ∧ amB s.ti 1 10000000 = true ∧ amB s.lo 1 1000000 = true ∧ amB s.ba 0 10000000 = true ∧ amB s.li 1 10000000 = true ∧ shB s.sh = true ∧ amB s.cr 0 10000000 = true ∧ stB s.fi s.ti 10000000 = true := by
  rw [may_split] at h
  simp only [Bool.and_eq_true, decide_eq_true_eq] at h
  obtain ⟨⟨⟨⟨⟨⟨⟨⟨a, b⟩, c⟩, d⟩, e⟩, f⟩, g⟩, i⟩, j⟩ := h
  exact ⟨a, b, c, d, e, f, g, i, j⟩

set_option maxRecDepth 100000 in
set_option maxHeartbeats 4000000 in
theorem pmay_no (s : Sp) (w : World) (ok : s.ok) (hm : mayB s = false) : Calls Try.prog 8 #[.agg s.cells] w fun e w' => e = .returned (.bool false) ∧ Below w.heap.size w w' := by
  have AM := Lib.hid (fun n l m W => pamong_any n l m W)
  have SH := Lib.hid (fun W => pshift_any s W ok.len ok.sh)
  have ST := Lib.hid (fun W h => psteps_any s.fi s.ti 10000000 W h)
  have C0 := s.c0
  have C1 := s.c1
  have C2 := s.c2
  have C3 := s.c3
  have C4 := s.c4
  have C5 := s.c5
  have C22 := Lib.hid (Sp.c22 ok.len)
  have C24 := Lib.hid (Sp.c24 ok.len)
  have o1 := ok.nu
  have o2 := ok.ro
  have hf := may_fails hm
  have B := Lib.hid ((Below.refl w.heap.size w).alloc (Nat.le_refl _) (.cells s.cells 25))
  have HB := Lib.hid (box_new w ok.len)
  clear hm ok
  obtain ⟨o1a, o1b⟩ := o1
  obtain ⟨o2a, o2b⟩ := o2
  obtain ⟨nu, hnu⟩ : ∃ nu, s.nu = nu := ⟨_, rfl⟩
  obtain ⟨ro, hro⟩ : ∃ ro, s.ro = ro := ⟨_, rfl⟩
  rw [hnu] at C0 hf o1a o1b
  rw [hro] at C1 hf o2a o2b
  clear hnu hro
  rcases hf with rfl | ⟨a, d0⟩ | ⟨a, d0, d1⟩ | ⟨a, d0, d1, d2⟩ | ⟨a, d0, d1, d2, d3⟩ | ⟨a, d0, d1, d2, d3, d4⟩ | ⟨a, d0, d1, d2, d3, d4, d5⟩ | ⟨a, d0, d1, d2, d3, d4, d5, d6⟩ | ⟨a, d0, d1, d2, d3, d4, d5, d6, d7⟩
  iterate 6
    · try have a0 : (nu != 0) = true := bne_iff_ne.2 a
      go_enter Try.func8, Try.ntmps8
      go_wp2_with (go_at_call 21; refine (AM.out _ _ _ _).mono ?_; rintro e w' ⟨rfl, rfl⟩)
      go_ret
      exact ⟨rfl, B.out⟩
  iterate 3
    · have a0 : (nu != 0) = true := bne_iff_ne.2 a
      have TI := Lib.hid (amB_iff.1 d1)
      rw [d5] at SH
      try rw [d7] at ST
      clear d5
      try clear d7
      go_enter Try.func8, Try.ntmps8
      go_wp2_with (first
        | (go_at_call 21; refine (AM.out _ _ _ _).mono ?_; rintro e w' ⟨rfl, rfl⟩)
        | ((with_reducible refine wl_load_arrg w.heap.size HB.out ?_ ?_ ?_); rfl; rfl))
      refine (SH.out _).mono ?_; rintro e w1 ⟨rfl, q⟩
      have B1 := Lib.hid (B.out.trans (q.mono B.out.size))
      have HB1 := Lib.hid (HB.out.below q)
      have k22 := HB1.out.cell 22
      rw [C22.out] at k22
      have k24 := HB1.out.cell 24
      rw [C24.out] at k24
      have k2 := HB1.out.cell 2
      rw [C2] at k2
      clear q
      go_wp2_with (go_at_call 21; refine (AM.out _ _ _ _).mono ?_; rintro e w' ⟨rfl, rfl⟩)
      try
        refine (ST.out _ TI.out).mono ?_; rintro e w2 ⟨rfl, rfl⟩
        go_wp2_with fail
      go_ret
      exact ⟨rfl, B1.out⟩
set_option maxRecDepth 100000 in
set_option maxHeartbeats 4000000 in
theorem pmay_yes (s : Sp) (w : World) (ok : s.ok) (hm : mayB s = true) : Calls Try.prog 8 #[.agg s.cells] w fun e w' => e = .returned (.bool true) ∧ Below w.heap.size w w' := by
  have AM := Lib.hid (fun n l m W => pamong_any n l m W)
  have SH := Lib.hid (fun W => pshift_any s W ok.len ok.sh)
  have ST := Lib.hid (fun W h => psteps_any s.fi s.ti 10000000 W h)
  have C0 := s.c0
  have C1 := s.c1
  have C2 := s.c2
  have C3 := s.c3
  have C4 := s.c4
  have C5 := s.c5
  have C22 := Lib.hid (Sp.c22 ok.len)
  have C24 := Lib.hid (Sp.c24 ok.len)
  have o1 := ok.nu
  have o2 := ok.ro
  obtain ⟨a, d0, d1, d2, d3, d4, d5, d6, d7⟩ := may_holds hm
  have B := Lib.hid ((Below.refl w.heap.size w).alloc (Nat.le_refl _) (.cells s.cells 25))
  have HB := Lib.hid (box_new w ok.len)
  clear hm ok
  obtain ⟨o1a, o1b⟩ := o1
  obtain ⟨o2a, o2b⟩ := o2
  obtain ⟨nu, hnu⟩ : ∃ nu, s.nu = nu := ⟨_, rfl⟩
  obtain ⟨ro, hro⟩ : ∃ ro, s.ro = ro := ⟨_, rfl⟩
  rw [hnu] at C0 a o1a o1b
  rw [hro] at C1 d0 o2a o2b
  clear hnu hro
  have a0 : (nu != 0) = true := bne_iff_ne.2 a
  have TI := Lib.hid (amB_iff.1 d1)
  rw [d5] at SH
  rw [d7] at ST
  clear d5 d7
  go_enter Try.func8, Try.ntmps8
  go_wp2_with (first
    | (go_at_call 21; refine (AM.out _ _ _ _).mono ?_; rintro e w' ⟨rfl, rfl⟩)
    | ((with_reducible refine wl_load_arrg w.heap.size HB.out ?_ ?_ ?_); rfl; rfl))
  refine (SH.out _).mono ?_; rintro e w1 ⟨rfl, q⟩
  have B1 := Lib.hid (B.out.trans (q.mono B.out.size))
  have HB1 := Lib.hid (HB.out.below q)
  have k22 := HB1.out.cell 22
  rw [C22.out] at k22
  have k24 := HB1.out.cell 24
  rw [C24.out] at k24
  have k2 := HB1.out.cell 2
  rw [C2] at k2
  clear q
  go_wp2_with (go_at_call 21; refine (AM.out _ _ _ _).mono ?_; rintro e w' ⟨rfl, rfl⟩)
  refine (ST.out _ TI.out).mono ?_; rintro e w2 ⟨rfl, rfl⟩
  go_wp2_with fail
  go_ret
  exact ⟨rfl, B1.out⟩
theorem pmay_any (s : Sp) (w : World) (ok : s.ok) : Calls Try.prog 8 #[.agg s.cells] w fun e w' => e = .returned (.bool (mayB s)) ∧ Below w.heap.size w w' := by
  cases h : mayB s
  · exact pmay_no s w ok h
  · exact pmay_yes s w ok h

set_option maxRecDepth 100000 in
theorem pisprice_any (s : Sp) (n : Int) (w : World) (ok : s.ok) : Calls Try.prog 10 #[.agg s.cells, .int .i64 n] w fun e w' => e = .returned (.bool (priceB s n)) ∧ Below w.heap.size w w' := by
  have MY := Lib.hid (fun W => pmay_any s W ok)
  have HB := Lib.hid (box_new w ok.len)
  have B := Lib.hid ((Below.refl w.heap.size w).alloc (Nat.le_refl _) (.cells s.cells 25))
  cases hm : mayB s
  · have E := Lib.hid (not_price hm n)
    rw [hm] at MY
    clear hm ok
    go_enter Try.func10, Try.ntmps10
    go_wp2_with ((with_reducible refine wl_load_sp w.heap.size HB.out ?_ ?_ ?_); rfl; rfl)
    refine (MY.out _).mono ?_; rintro e w1 ⟨rfl, q⟩
    have B1 := Lib.hid (B.out.trans (q.mono B.out.size))
    clear q
    go_wp2_with fail
    go_ret
    refine ⟨?_, B1.out⟩
    rw [E.out]
    rfl
  · have E := Lib.hid (may_price hm n)
    have TI := Lib.hid (head_parts (may_head hm)).2.2.1
    have PR := Lib.hid (fun W => psteps_any n s.ti 10000000 W TI.out)
    have C2 := Lib.hid s.c2
    rw [hm] at MY
    clear hm ok
    go_enter Try.func10, Try.ntmps10
    go_wp2_with ((with_reducible refine wl_load_sp w.heap.size HB.out ?_ ?_ ?_); rfl; rfl)
    refine (MY.out _).mono ?_; rintro e w1 ⟨rfl, q⟩
    have B1 := Lib.hid (B.out.trans (q.mono B.out.size))
    have hc := (HB.out.below q).cell 2
    rw [C2.out] at hc
    clear q
    go_wp2_with fail
    refine (PR.out _).mono ?_; rintro e w2 ⟨rfl, rfl⟩
    go_wp2_with fail
    go_ret
    refine ⟨?_, B1.out⟩
    rw [E.out]
    rfl
set_option maxRecDepth 100000 in
theorem pisqty_any (s : Sp) (n : Int) (w : World) (ok : s.ok) : Calls Try.prog 12 #[.agg s.cells, .int .i64 n] w fun e w' => e = .returned (.bool (qtyB s n)) ∧ Below w.heap.size w w' := by
  have MY := Lib.hid (fun W => pmay_any s W ok)
  have HB := Lib.hid (box_new w ok.len)
  have B := Lib.hid ((Below.refl w.heap.size w).alloc (Nat.le_refl _) (.cells s.cells 25))
  cases hm : mayB s
  · have E : Hid (qtyB s n = false) := Lib.hid (by unfold qtyB; rw [hm]; rfl)
    rw [hm] at MY
    clear hm ok
    go_enter Try.func12, Try.ntmps12
    go_wp2_with ((with_reducible refine wl_load_sp w.heap.size HB.out ?_ ?_ ?_); rfl; rfl)
    refine (MY.out _).mono ?_; rintro e w1 ⟨rfl, q⟩
    have B1 := Lib.hid (B.out.trans (q.mono B.out.size))
    clear q
    go_wp2_with fail
    go_ret
    refine ⟨?_, B1.out⟩
    rw [E.out]
    rfl
  · have E : Hid (qtyB s n = stB n s.lo 1000000) := Lib.hid (by unfold qtyB; rw [hm]; rfl)
    have TI := Lib.hid (head_parts (may_head hm)).2.2.2.1
    have PR := Lib.hid (fun W => psteps_any n s.lo 1000000 W ⟨TI.out.1, by have := TI.out.2; omega⟩)
    have C3 := Lib.hid s.c3
    rw [hm] at MY
    clear hm ok
    go_enter Try.func12, Try.ntmps12
    go_wp2_with ((with_reducible refine wl_load_sp w.heap.size HB.out ?_ ?_ ?_); rfl; rfl)
    refine (MY.out _).mono ?_; rintro e w1 ⟨rfl, q⟩
    have B1 := Lib.hid (B.out.trans (q.mono B.out.size))
    have hc := (HB.out.below q).cell 3
    rw [C3.out] at hc
    clear q
    go_wp2_with fail
    refine (PR.out _).mono ?_; rintro e w2 ⟨rfl, rfl⟩
    go_wp2_with fail
    go_ret
    refine ⟨?_, B1.out⟩
    rw [E.out]
    rfl
set_option maxRecDepth 100000 in
theorem pband_any (s : Sp) (a b : Int) (w : World) (ok : s.ok) (ha : I64 a) (hb : I64 b) : Calls Try.prog 14 #[.agg s.cells, .int .i64 a, .int .i64 b] w fun e w' => e = .returned (.bool (bandB s a b)) ∧ Below w.heap.size w w' := by
  have MY := Lib.hid (fun W => pmay_any s W ok)
  have SU := Lib.hid (fun W => psub_any b a hb ha W)
  have HB := Lib.hid (box_new w ok.len)
  have B := Lib.hid ((Below.refl w.heap.size w).alloc (Nat.le_refl _) (.cells s.cells 25))
  cases hm : mayB s
  · have E := Lib.hid (not_band hm a b)
    rw [hm] at MY
    clear hm ok ha hb
    obtain ⟨dn, hdn⟩ : ∃ x, ftN (b - a) = x := ⟨_, rfl⟩
    obtain ⟨de, hde⟩ : ∃ x, ftE (b - a) = x := ⟨_, rfl⟩
    rw [hdn, hde] at SU
    clear hdn hde
    go_enter Try.func14, Try.ntmps14
    go_wp2_with fail
    refine (SU.out _).mono ?_; rintro e w1 ⟨rfl, rfl⟩
    go_wp2_with ((with_reducible refine wl_load_sp w.heap.size HB.out ?_ ?_ ?_); rfl; rfl)
    refine (MY.out _).mono ?_; rintro e w1 ⟨rfl, q⟩
    have B1 := Lib.hid (B.out.trans (q.mono B.out.size))
    clear q
    go_wp2_with fail
    go_ret
    refine ⟨?_, B1.out⟩
    rw [E.out]
    rfl
  · have hba := (head_parts (may_head hm)).2.2.2.2.1
    have E := Lib.hid (may_band hm a b)
    rw [hm] at MY
    have C4 := Lib.hid s.c4
    by_cases hf : I64 (b - a)
    · have e1 : ftN (b - a) = b - a := if_pos hf
      have e2 : ftE (b - a) = 0 := if_pos hf
      have WI := Lib.hid (fun W => pwithin_any (b - a) s.ba hf ok.ba W)
      have HW : Hid (withinB (b - a) s.ba = decide (a - b ≤ s.ba ∧ b - a ≤ s.ba)) := Lib.hid (decide_eq_decide.2 ⟨fun h => by omega, fun h => by omega⟩)
      rw [e1, e2] at SU
      clear hm ok ha hb e1 e2 hf hba
      obtain ⟨d, hd⟩ : ∃ x, b - a = x := ⟨_, rfl⟩
      rw [hd] at SU WI HW E
      clear hd
      go_enter Try.func14, Try.ntmps14
      go_wp2_with fail
      refine (SU.out _).mono ?_; rintro e w1 ⟨rfl, rfl⟩
      go_wp2_with ((with_reducible refine wl_load_sp w.heap.size HB.out ?_ ?_ ?_); rfl; rfl)
      refine (MY.out _).mono ?_; rintro e w1 ⟨rfl, q⟩
      have B1 := Lib.hid (B.out.trans (q.mono B.out.size))
      have hc := (HB.out.below q).cell 4
      rw [C4.out] at hc
      clear q
      go_wp2_with fail
      refine (WI.out _).mono ?_; rintro e w2 ⟨rfl, rfl⟩
      go_wp2_with fail
      go_ret
      refine ⟨?_, B1.out⟩
      rw [E.out, ← HW.out]
      rfl
    · have e1 : ftN (b - a) = 0 := if_neg hf
      have e2 : ftE (b - a) = 6 := if_neg hf
      have E2 : Hid (bandB s a b = false) := Lib.hid (by
        rw [E.out]
        refine decide_eq_false fun c => hf ?_
        unfold I64
        omega)
      rw [e1, e2] at SU
      clear hm ok ha hb e1 e2 hf hba E
      go_enter Try.func14, Try.ntmps14
      go_wp2_with fail
      refine (SU.out _).mono ?_; rintro e w1 ⟨rfl, rfl⟩
      go_wp2_with ((with_reducible refine wl_load_sp w.heap.size HB.out ?_ ?_ ?_); rfl; rfl)
      refine (MY.out _).mono ?_; rintro e w1 ⟨rfl, q⟩
      have B1 := Lib.hid (B.out.trans (q.mono B.out.size))
      clear q
      go_wp2_with fail
      go_ret
      refine ⟨?_, B1.out⟩
      rw [E2.out]
      rfl
end Go.Proofs.Ytlnakhbcefmiaaa
