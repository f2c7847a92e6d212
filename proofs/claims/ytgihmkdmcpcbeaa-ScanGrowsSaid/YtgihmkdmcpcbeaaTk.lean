/- ScanScans and ScanGrows, walked. -/
import Derived.Test.YtgihmkdmcpcbeaaTi
namespace Go.Proofs.Ytgihmkdmcpcbeaa
open Go.RowKit Go.Shelf
set_option linter.unusedVariables false
set_option linter.unusedSimpArgs false

theorem rng_new10 (w : World) (l : List Int) : (w.alloc (.cells (arr10 l) 22)).rangeAt w.heap.size 0 (l.map (Value.int .i64)) := fun j u hj => by
  rw [Nat.zero_add, cell_of_row _ _ _ _ _ _ (heap_alloc_new w _)]
  simpa [arr10] using hj
set_option maxRecDepth 100000 in
set_option maxHeartbeats 4000000 in
theorem scans10_all (l : List Int) (q : Int) (w : World) (hl : l.length = 16) (hi : ∀ x, x ∈ l → I64 x) (hq : I64 q) :
    Calls Try.prog 3 #[.agg (arr10 l), .int .i64 q] w fun e w' => e = .returned (.bool true) ∧ Below w.heap.size w w' := by
  obtain ⟨W1, hW1⟩ : ∃ W, w.alloc (.cells (arr10 l) 22) = W := ⟨_, rfl⟩
  have b1 : Below w.heap.size w W1 := by rw [← hW1]; exact below_new _ _
  have r1 : W1.rangeAt w.heap.size 0 (l.map (Value.int .i64)) := by rw [← hW1]; exact rng_new10 w l
  have R := Lib.hid fun (W : World) (q : Below W1.heap.size W1 W) => (show W.rangeAt w.heap.size 0 (l.map (Value.int .i64)) from rng_below r1 q (Nat.le_refl _))
  have R1 := Lib.hid r1
  have P := Lib.hid fun W => scan10 l q W hl hi hq
  have RF := Lib.hid fun W => rscan10 l q W hl hi hq
  have KN := Lib.hid known10
  have B1 := Lib.hid b1
  have HW := Lib.hid hW1
  have HL := Lib.hid hl
  generalize scanN l q = n at *
  generalize scanE l q = ee at *
  clear b1 r1 hW1 hl hi hq
  go_enter Try.func3, Try.ntmps3
  go_wp2_with (first | (rw [HW.out]) | ((with_reducible refine wl_arr10 HL.out w.heap.size 0 R1.out ?_ ?_ ?_); rfl; rfl))
  refine (P.out _).mono ?_; rintro e w2 ⟨rfl, q2⟩
  have R2 := Lib.hid (R.out w2 q2)
  have B2 := Lib.hid (B1.out.trans (q2.mono B1.out.size))
  clear q2
  go_wp2_with ((with_reducible refine wl_arr10 HL.out w.heap.size 0 R2.out ?_ ?_ ?_); rfl; rfl)
  refine (RF.out _).mono ?_; rintro e w3 ⟨rfl, q3⟩
  have B3 := Lib.hid (B2.out.trans (q3.mono B2.out.size))
  clear q3
  go_wp2_with fail
  refine (KN.out _).mono ?_; rintro e w4 ⟨rfl, q4⟩
  have B4 := Lib.hid (B3.out.trans (q4.mono B3.out.size))
  clear q4
  go_wp2_with fail
  go_ret
  exact ⟨rfl, B4.out⟩
/-- What is asked of the scans. -/
theorem grows10 {l : List Int} {p q : Int} (hp : -500000000 ≤ p ∧ p ≤ 500000000) (hq : -500000000 ≤ q ∧ q ≤ 500000000) :
    (∃ e, scanE l p = e ∧ scanE l q = e ∧ scanE l (p + q) = e ∧ scanE l 0 = e ∧ e ≠ 0 ∧ scanN l p = 0) ∨
    (scanE l p = 0 ∧ scanE l q = 0 ∧ scanE l (p + q) = 0 ∧ scanE l 0 = 0 ∧ scanN l 0 = 0 ∧ (0 ≤ scanN l p ∧ scanN l p ≤ 10000000000000000) ∧ (0 ≤ scanN l q ∧ scanN l q ≤ 10000000000000000) ∧ scanN l (p + q) ≤ scanN l p + scanN l q ∧
      (0 ≤ p → p ≤ q → scanN l p ≤ scanN l q) ∧ (p ≤ 0 → q ≤ p → scanN l p ≤ scanN l q)) := by
  have key : ∀ r, -1000000000 ≤ r ∧ r ≤ 1000000000 → scanB l r = l.all (fun x => amB x (-10000000) 10000000) := fun r hr => by
    unfold scanB
    rw [amB_iff.2 hr, Bool.and_true]
  have k1 := key p (by omega)
  have k2 := key q (by omega)
  have k3 := key (p + q) (by omega)
  have k4 := key 0 (by omega)
  unfold scanE scanN
  rw [k1, k2, k3, k4]
  cases h : l.all (fun x => amB x (-10000000) 10000000)
  · left
    exact ⟨2, rfl, rfl, rfl, rfl, by decide, rfl⟩
  · right
    have hs : ShB l := fun x hx => amB_iff.1 (List.all_eq_true.1 h x hx)
    have m1 := wst_max (M := 1000000000) hs (show -1000000000 ≤ p ∧ p ≤ 1000000000 by omega)
    have m2 := wst_max (M := 1000000000) hs (show -1000000000 ≤ q ∧ q ≤ 1000000000 by omega)
    exact ⟨rfl, rfl, rfl, rfl, wst_zero l, ⟨wst_pos _ _, m1⟩, ⟨wst_pos _ _, m2⟩, wst_sum l p q, fun h0 h => wst_up h0 h, fun h0 h => wst_down h0 h⟩
set_option maxRecDepth 100000 in
set_option maxHeartbeats 8000000 in
theorem grows10_all (l : List Int) (p q : Int) (w : World) (hl : l.length = 16) (hi : ∀ x, x ∈ l → I64 x) (hp : I64 p) (hq : I64 q) :
    Calls Try.prog 5 #[.agg (arr10 l), .int .i64 p, .int .i64 q] w fun e w' => e = .returned (.bool true) ∧ Below w.heap.size w w' := by
  obtain ⟨W1, hW1⟩ : ∃ W, w.alloc (.cells (arr10 l) 22) = W := ⟨_, rfl⟩
  have b1 : Below w.heap.size w W1 := by rw [← hW1]; exact below_new _ _
  have r1 : W1.rangeAt w.heap.size 0 (l.map (Value.int .i64)) := by rw [← hW1]; exact rng_new10 w l
  have R := Lib.hid fun (W : World) (q : Below W1.heap.size W1 W) => (show W.rangeAt w.heap.size 0 (l.map (Value.int .i64)) from rng_below r1 q (Nat.le_refl _))
  have R1 := Lib.hid r1
  have P := Lib.hid fun q hq W => scan10 l q W hl hi hq
  have KN := Lib.hid known10
  have B1 := Lib.hid b1
  have HW := Lib.hid hW1
  have HL := Lib.hid hl
  have HP := Lib.hid hp
  have HQ := Lib.hid hq
  obtain ⟨p1, p2⟩ := hp
  obtain ⟨q1, q2⟩ := hq
  clear b1 r1 hW1 hl hi
  obtain ⟨c1, e1⟩ : ∃ c, decide (p < -500000000) = c := ⟨_, rfl⟩
  obtain ⟨c2, e2⟩ : ∃ c, decide (500000000 < p) = c := ⟨_, rfl⟩
  obtain ⟨c3, e3⟩ : ∃ c, decide (q < -500000000) = c := ⟨_, rfl⟩
  obtain ⟨c4, e4⟩ : ∃ c, decide (500000000 < q) = c := ⟨_, rfl⟩
  by_cases hin : c1 = false ∧ c2 = false ∧ c3 = false ∧ c4 = false
  case neg =>
    go_enter Try.func5, Try.ntmps5
    have HIN := Lib.hid hin
    clear hin
    cases c1
    · cases c2
      · cases c3
        · cases c4
          · exact absurd ⟨rfl, rfl, rfl, rfl⟩ HIN.out
          · go_wp2_with (rw [HW.out])
            refine (KN.out _).mono ?_; rintro e w4 ⟨rfl, q4⟩
            have B4 := Lib.hid (B1.out.trans (q4.mono B1.out.size))
            clear q4
            go_wp2_with fail
            go_ret
            exact ⟨rfl, B4.out⟩
        · go_wp2_with (rw [HW.out])
          refine (KN.out _).mono ?_; rintro e w4 ⟨rfl, q4⟩
          have B4 := Lib.hid (B1.out.trans (q4.mono B1.out.size))
          clear q4
          go_wp2_with fail
          go_ret
          exact ⟨rfl, B4.out⟩
      · go_wp2_with (rw [HW.out])
        refine (KN.out _).mono ?_; rintro e w4 ⟨rfl, q4⟩
        have B4 := Lib.hid (B1.out.trans (q4.mono B1.out.size))
        clear q4
        go_wp2_with fail
        go_ret
        exact ⟨rfl, B4.out⟩
    · go_wp2_with (rw [HW.out])
      refine (KN.out _).mono ?_; rintro e w4 ⟨rfl, q4⟩
      have B4 := Lib.hid (B1.out.trans (q4.mono B1.out.size))
      clear q4
      go_wp2_with fail
      go_ret
      exact ⟨rfl, B4.out⟩
  case pos =>
    obtain ⟨rfl, rfl, rfl, rfl⟩ := hin
    have hp' : -500000000 ≤ p ∧ p ≤ 500000000 := ⟨by have := of_decide_eq_false e1; omega, by have := of_decide_eq_false e2; omega⟩
    have hq' : -500000000 ≤ q ∧ q ≤ 500000000 := ⟨by have := of_decide_eq_false e3; omega, by have := of_decide_eq_false e4; omega⟩
    have G := Lib.hid (grows10 (l := l) hp' hq')
    have P1 := Lib.hid fun W => P.out p HP.out W
    have P2 := Lib.hid fun W => P.out q HQ.out W
    have P3 := Lib.hid fun W => P.out (p + q) (by unfold I64; omega) W
    have P4 := Lib.hid fun W => P.out 0 (by unfold I64; omega) W
    obtain ⟨hp1, hp2⟩ := hp'
    obtain ⟨hq1, hq2⟩ := hq'
    generalize scanN l p = np at *
    generalize scanN l q = nq at *
    generalize scanN l (p + q) = ns at *
    generalize scanN l 0 = n0 at *
    generalize scanE l p = ep at *
    generalize scanE l q = eq at *
    generalize scanE l (p + q) = es at *
    generalize scanE l 0 = e0 at *
    clear P HP HQ
    go_enter Try.func5, Try.ntmps5
    go_wp2_with (first | (rw [HW.out]) | ((with_reducible refine wl_arr10 HL.out w.heap.size 0 R1.out ?_ ?_ ?_); rfl; rfl))
    refine (P1.out _).mono ?_; rintro e w2 ⟨rfl, q2⟩
    have R2 := Lib.hid (R.out w2 q2)
    have Q2 := Lib.hid q2
    clear q2 e1 e2 e3 e4
    go_wp2_with ((with_reducible refine wl_arr10 HL.out w.heap.size 0 R2.out ?_ ?_ ?_); rfl; rfl)
    refine (P2.out _).mono ?_; rintro e w3 ⟨rfl, q3⟩
    have Q3 := Lib.hid (Q2.out.trans (q3.mono Q2.out.size))
    have R3 := Lib.hid (R.out w3 Q3.out)
    clear q3
    go_wp2_with ((with_reducible refine wl_arr10 HL.out w.heap.size 0 R3.out ?_ ?_ ?_); rfl; rfl)
    refine (P3.out _).mono ?_; rintro e w4 ⟨rfl, q4⟩
    have Q4 := Lib.hid (Q3.out.trans (q4.mono Q3.out.size))
    have R4 := Lib.hid (R.out w4 Q4.out)
    clear q4
    go_wp2_with ((with_reducible refine wl_arr10 HL.out w.heap.size 0 R4.out ?_ ?_ ?_); rfl; rfl)
    refine (P4.out _).mono ?_; rintro e w5 ⟨rfl, q5⟩
    have Q5 := Lib.hid (B1.out.trans ((Q4.out.trans (q5.mono Q4.out.size)).mono B1.out.size))
    clear q5
    rcases G.out with ⟨ee, h1, h2, h3, h4, hne, hn0⟩ | ⟨rfl, rfl, rfl, rfl, rfl, hb1, hb2, hs, hu, hd⟩
    · have dn : (ee != 0) = true := bne_iff_ne.2 hne
      subst h1 h2 h3 h4
      clear G hne hn0 R R1 R2 R3 R4
      go_wp2_with fail
      refine (KN.out _).mono ?_; rintro e w6 ⟨rfl, q6⟩
      have B6 := Lib.hid (Q5.out.trans (q6.mono Q5.out.size))
      clear q6
      go_wp2_with fail
      go_ret
      exact ⟨rfl, B6.out⟩
    · obtain ⟨b1, b2⟩ := hb1
      obtain ⟨b3, b4⟩ := hb2
      have HU := Lib.hid hu
      have HD := Lib.hid hd
      clear G hu hd R R1 R2 R3 R4
      have s1 : decide (0 ≤ np) = true := decide_eq_true b1
      have s2 : decide (ns ≤ np + nq) = true := decide_eq_true hs
      obtain ⟨d1, f1⟩ : ∃ c, decide (0 ≤ p) = c := ⟨_, rfl⟩
      obtain ⟨d2, f2⟩ : ∃ c, decide (p ≤ q) = c := ⟨_, rfl⟩
      obtain ⟨d3, f3⟩ : ∃ c, decide (nq < np) = c := ⟨_, rfl⟩
      obtain ⟨d4, f4⟩ : ∃ c, decide (p ≤ 0) = c := ⟨_, rfl⟩
      obtain ⟨d5, f5⟩ : ∃ c, decide (q ≤ p) = c := ⟨_, rfl⟩
      have N1 : Hid (¬ (d1 = true ∧ d2 = true ∧ d3 = true)) := Lib.hid fun ⟨x, y, z⟩ => by
        subst x y z
        have := HU.out (of_decide_eq_true f1) (of_decide_eq_true f2)
        have := of_decide_eq_true f3
        omega
      have N2 : Hid (¬ (d4 = true ∧ d5 = true ∧ d3 = true)) := Lib.hid fun ⟨x, y, z⟩ => by
        subst x y z
        have := HD.out (of_decide_eq_true f4) (of_decide_eq_true f5)
        have := of_decide_eq_true f3
        omega
      clear HU HD
      cases d3
      · cases d1 <;> cases d2 <;> cases d4 <;> cases d5 <;>
        · go_wp2_with fail
          refine (KN.out _).mono ?_; rintro e w6 ⟨rfl, q6⟩
          have B6 := Lib.hid (Q5.out.trans (q6.mono Q5.out.size))
          clear q6
          go_wp2_with fail
          go_ret
          exact ⟨rfl, B6.out⟩
      · cases d1 <;> cases d2 <;> cases d4 <;> cases d5 <;> first
        | exact absurd ⟨rfl, rfl, rfl⟩ N1.out
        | exact absurd ⟨rfl, rfl, rfl⟩ N2.out
        | (go_wp2_with fail
           refine (KN.out _).mono ?_; rintro e w6 ⟨rfl, q6⟩
           have B6 := Lib.hid (Q5.out.trans (q6.mono Q5.out.size))
           clear q6
           go_wp2_with fail
           go_ret
           exact ⟨rfl, B6.out⟩)
end Go.Proofs.Ytgihmkdmcpcbeaa
