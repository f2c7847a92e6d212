/- The document's Check. -/
import Derived.Test.YtmelpikncdnloaaGta
namespace Go.Proofs.Ytmelpikncdnloaa
open Go.RowKit
set_option linter.unusedVariables false
set_option linter.unusedSimpArgs false

set_option maxRecDepth 100000 in
set_option maxHeartbeats 8000000 in
theorem rchk12 (g : Gt) (w : World) (ok : g.ok) : Calls Try.prog 7 #[.agg (EG.cells g).toArray] w fun e w' => e = .returned (.int .i64 (chk g)) ∧ Below w.heap.size w w' := by
  have hzs := zero_s12
  obtain ⟨W1, hW1⟩ : ∃ W1, w.alloc (.cells (EG.cells g).toArray 32) = W1 := ⟨_, rfl⟩
  have x1 : EG.Bx 32 W1 w.heap.size g := by rw [← hW1]; exact gbx_new w g
  have b1 : Below w.heap.size w W1 := by rw [← hW1]; exact below_new w _
  have HX := Lib.hid fun (W : World) (q : Below W1.heap.size W1 W) => (show EG.Bx 32 W w.heap.size g from gbx_below x1 q)
  have k28 : W1.cell? ⟨w.heap.size, 29, none⟩ = some (.bool g.ki) := gt_at x1 (j := 4) rfl
  have k29 : W1.cell? ⟨w.heap.size, 30, none⟩ = some (.bool g.de) := gt_at x1 (j := 5) rfl
  have k25 : W1.cell? ⟨w.heap.size, 25, none⟩ = some (.int .u8 g.st) := gt_at x1 (j := 0) rfl
  have B1 := Lib.hid b1
  have HW1 := Lib.hid hW1
  have SPL := Lib.hid (gt_spl x1)
  have L := Lib.hid g.len
  have OK := Lib.hid ok
  obtain ⟨r, hr⟩ : ∃ r, chk g = r := ⟨_, rfl⟩
  have R := Lib.hid hr
  rw [hr]
  have X0 := Lib.hid (box_new W1 (s := zeroSp) rfl)
  obtain ⟨W2, hW2⟩ : ∃ W, (W1.alloc (.cells zeroSp.cells 25)).setRow W1.heap.size g.sp.cells = W := ⟨_, rfl⟩
  have x2 : Box W2 W1.heap.size g.sp := by rw [← hW2]; exact box_set X0.out g.len
  have b2 : Below W1.heap.size W1 W2 := by rw [← hW2]; exact below_row' (below_new _ _) (Nat.le_refl _)
  have Q2 := Lib.hid b2
  have HS := Lib.hid fun (W : World) (q : Below W2.heap.size W2 W) => (show Box W W1.heap.size g.sp from x2.below q)
  have HW2 := Lib.hid hW2
  have B2 := Lib.hid (b1.trans (b2.mono b1.size))
  have RM := Lib.hid fun W => rmay_any g.sp W ok.sp
  have RP := Lib.hid fun n W => risprice_any g.sp n W ok.sp
  have RQ := Lib.hid fun W => risqty_any g.sp g.qt W ok.sp
  clear x1 b1 hW1 hr ok x2 b2 hW2
  go_enter Try.func7, Try.ntmps7
  cases hde : g.de
  case true =>
    rw [hde] at k29
    have E : Hid (r = 120) := Lib.hid (by rw [← R.out]; unfold chk; rw [hde]; rfl)
    go_wp2_with (rw [HW1.out])
    go_ret
    rw [E.out]
    exact ⟨rfl, B1.out⟩
  rw [hde] at k29
  cases hki : g.ki
  case true =>
    rw [hki] at k28
    have E : Hid (r = 121) := Lib.hid (by rw [← R.out]; unfold chk; rw [hde, hki]; rfl)
    go_wp2_with (rw [HW1.out])
    go_ret
    rw [E.out]
    exact ⟨rfl, B1.out⟩
  rw [hki] at k28
  by_cases c3 : g.st = 3
  · have d3 : (g.st == 3) = true := by simp [c3]
    have E : Hid (r = 50) := Lib.hid (by rw [← R.out]; unfold chk; rw [hde, hki, if_neg (by decide), if_neg (by decide), if_pos c3])
    clear c3
    go_wp2_with (rw [HW1.out])
    go_ret
    rw [E.out]
    exact ⟨rfl, B1.out⟩
  have d3 : (g.st == 3) = false := by simp [c3]
  by_cases c2 : g.st = 2
  · have d2 : (g.st == 2) = true := by simp [c2]
    have E : Hid (r = 122) := Lib.hid (by rw [← R.out]; unfold chk; rw [hde, hki, if_neg (by decide), if_neg (by decide), if_neg c3, if_pos c2])
    clear c3 c2
    go_wp2_with (rw [HW1.out])
    go_ret
    rw [E.out]
    exact ⟨rfl, B1.out⟩
  have d2 : (g.st == 2) = false := by simp [c2]
  have RT : Hid (tailG g = r) := Lib.hid (by rw [← R.out, chk_of hde hki c3 c2])
  clear c2 c3 hde hki R
  have BAD : Hid (gmayB g = false → r = 2) := Lib.hid fun h => by rw [← RT.out]; unfold tailG; rw [h]; rfl
  have NOT := Lib.hid fun (h : ¬ (g.st = 1 ∧ priceB g.sp g.pr = true ∧ (0 ≤ g.bu ∧ g.bu ≤ 1000000000) ∧ (0 ≤ g.se ∧ g.se ≤ 1000000000) ∧ -10000000 ≤ g.q ∧ g.q ≤ 10000000)) => (show r = 2 from BAD.out (by cases e : gmayB g; rfl; exact absurd (gmayB_iff.1 e) h))
  have j25 : W2.cell? ⟨w.heap.size, 25, none⟩ = some (.int .u8 g.st) := gt_at (HX.out W2 Q2.out) (j := 0) rfl
  have S2 := Lib.hid (HS.out W2 (Below.refl _ _))
  by_cases c1 : g.st = 1
  case neg =>
    have d1 : (g.st != 1) = true := by simp [c1]
    have E : Hid (r = 2) := Lib.hid (NOT.out fun h => c1 h.1)
    clear c1
    go_wp2_with (first | (rw [HW1.out]) | ((with_reducible refine wl_spG L.out w.heap.size 0 SPL.out ?_ ?_ ?_); rfl; rfl) | ((with_reducible refine wl_store_sp g.sp W1.heap.size X0.out L.out ?_ ?_ ?_); rfl; rfl; rw [HW2.out]))
    go_ret
    rw [E.out]
    exact ⟨rfl, B2.out⟩
  have d1 : (g.st != 1) = false := by simp [c1]
  have C1 := Lib.hid c1
  clear c1
  go_wp2_with (first | (rw [HW1.out]) | ((with_reducible refine wl_spG L.out w.heap.size 0 SPL.out ?_ ?_ ?_); rfl; rfl) | ((with_reducible refine wl_store_sp g.sp W1.heap.size X0.out L.out ?_ ?_ ?_); rfl; rfl; rw [HW2.out]) | ((with_reducible refine wl_load_sp W1.heap.size S2.out ?_ ?_ ?_); rfl; rfl))
  refine (RM.out _).mono ?_; rintro e w3 ⟨rfl, q3⟩
  have Q3 := Lib.hid q3
  have B3 := Lib.hid (B2.out.trans (q3.mono B2.out.size))
  have S3 := Lib.hid (HS.out w3 q3)
  have k26 : w3.cell? ⟨w.heap.size, 26, none⟩ = some (.int .i64 g.pr) := gt_at (HX.out w3 (Q2.out.trans (q3.mono Q2.out.size))) (j := 1) rfl
  clear q3 j25 k25 k28 k29
  cases hmb : mayB g.sp
  case false =>
    have E : Hid (r = 2) := Lib.hid (NOT.out fun h => by have := (price_bd h.2.1).1; rw [hmb] at this; cases this)
    clear hmb
    go_wp2_with fail
    go_ret
    rw [E.out]
    exact ⟨rfl, B3.out⟩
  clear hmb
  go_wp2_with ((with_reducible refine wl_load_sp W1.heap.size S3.out ?_ ?_ ?_); rfl; rfl)
  refine (RP.out _ _).mono ?_; rintro e w4 ⟨rfl, q4⟩
  have Q4 := Lib.hid (Q3.out.trans (q4.mono Q3.out.size))
  have B4 := Lib.hid (B3.out.trans (q4.mono B3.out.size))
  have S4 := Lib.hid (HS.out w4 Q4.out)
  have X4 := Lib.hid (HX.out w4 (Q2.out.trans (Q4.out.mono Q2.out.size)))
  have k32 : w4.cell? ⟨w.heap.size, 32, none⟩ = some (.int .i64 g.bu) := gt_at X4.out (j := 7) rfl
  have k33 : w4.cell? ⟨w.heap.size, 33, none⟩ = some (.int .i64 g.se) := gt_at X4.out (j := 8) rfl
  have k31 : w4.cell? ⟨w.heap.size, 31, none⟩ = some (.int .i64 g.q) := gt_at X4.out (j := 6) rfl
  have k36 : w4.cell? ⟨w.heap.size, 36, none⟩ = some (.int .i64 g.qt) := gt_at X4.out (j := 11) rfl
  clear q4 k26
  cases hpb : priceB g.sp g.pr
  case false =>
    have E : Hid (r = 2) := Lib.hid (NOT.out fun h => by rw [hpb] at h; cases h.2.1)
    clear hpb
    go_wp2_with fail
    go_ret
    rw [E.out]
    exact ⟨rfl, B4.out⟩
  have PB := Lib.hid hpb
  clear hpb
  by_cases e1 : g.bu < 0
  · have f1 : decide (g.bu < 0) = true := decide_eq_true e1
    have E : Hid (r = 2) := Lib.hid (NOT.out fun h => by have := h.2.2.1; omega)
    clear e1
    go_wp2_with fail
    go_ret
    rw [E.out]
    exact ⟨rfl, B4.out⟩
  have f1 : decide (g.bu < 0) = false := decide_eq_false e1
  by_cases e2 : 1000000000 < g.bu
  · have f2 : decide (1000000000 < g.bu) = true := decide_eq_true e2
    have E : Hid (r = 2) := Lib.hid (NOT.out fun h => by have := h.2.2.1; omega)
    clear e1 e2
    go_wp2_with fail
    go_ret
    rw [E.out]
    exact ⟨rfl, B4.out⟩
  have f2 : decide (1000000000 < g.bu) = false := decide_eq_false e2
  by_cases e3 : g.se < 0
  · have f3 : decide (g.se < 0) = true := decide_eq_true e3
    have E : Hid (r = 2) := Lib.hid (NOT.out fun h => by have := h.2.2.2.1; omega)
    clear e1 e2 e3
    go_wp2_with fail
    go_ret
    rw [E.out]
    exact ⟨rfl, B4.out⟩
  have f3 : decide (g.se < 0) = false := decide_eq_false e3
  by_cases e4 : 1000000000 < g.se
  · have f4 : decide (1000000000 < g.se) = true := decide_eq_true e4
    have E : Hid (r = 2) := Lib.hid (NOT.out fun h => by have := h.2.2.2.1; omega)
    clear e1 e2 e3 e4
    go_wp2_with fail
    go_ret
    rw [E.out]
    exact ⟨rfl, B4.out⟩
  have f4 : decide (1000000000 < g.se) = false := decide_eq_false e4
  by_cases e5 : 10000000 < g.q
  · have f5 : decide (10000000 < g.q) = true := decide_eq_true e5
    have E : Hid (r = 2) := Lib.hid (NOT.out fun h => by have := h.2.2.2.2; omega)
    clear e1 e2 e3 e4 e5
    go_wp2_with fail
    go_ret
    rw [E.out]
    exact ⟨rfl, B4.out⟩
  have f5 : decide (10000000 < g.q) = false := decide_eq_false e5
  by_cases e6 : g.q < -10000000
  · have f6 : decide (g.q < -10000000) = true := decide_eq_true e6
    have E : Hid (r = 2) := Lib.hid (NOT.out fun h => by have := h.2.2.2.2; omega)
    clear e1 e2 e3 e4 e5 e6
    go_wp2_with fail
    go_ret
    rw [E.out]
    exact ⟨rfl, B4.out⟩
  have f6 : decide (g.q < -10000000) = false := decide_eq_false e6
  have GM : Hid (gmayB g = true) := Lib.hid (gmayB_iff.2 ⟨C1.out, PB.out, by omega, by omega, by omega⟩)
  have BD : (0 ≤ g.bu ∧ g.bu ≤ 1000000000) ∧ (0 ≤ g.se ∧ g.se ≤ 1000000000) ∧ -10000000 ≤ g.q ∧ g.q ≤ 10000000 := by omega
  clear NOT BAD e1 e2 e3 e4 e5 e6
  obtain ⟨⟨z1, z2⟩, ⟨z3, z4⟩, z5, z6⟩ := BD
  go_wp2_with ((with_reducible refine wl_load_sp W1.heap.size S4.out ?_ ?_ ?_); rfl; rfl)
  refine (RQ.out _).mono ?_; rintro e w5 ⟨rfl, q5⟩
  have Q5 := Lib.hid (Q4.out.trans (q5.mono Q4.out.size))
  have B5 := Lib.hid (B4.out.trans (q5.mono B4.out.size))
  have S5 := Lib.hid (HS.out w5 Q5.out)
  have k35 : w5.cell? ⟨w.heap.size, 35, none⟩ = some (.int .i64 g.px) := gt_at (HX.out w5 (Q2.out.trans (Q5.out.mono Q2.out.size))) (j := 10) rfl
  clear q5 k31 k32 k33 k36
  cases hqb : qtyB g.sp g.qt
  case false =>
    have E : Hid (r = 123) := Lib.hid (by rw [← RT.out]; unfold tailG; rw [GM.out, hqb]; rfl)
    clear hqb
    go_wp2_with fail
    go_ret
    rw [E.out]
    exact ⟨rfl, B5.out⟩
  have QB := Lib.hid hqb
  obtain ⟨z7, z8⟩ := (qty_bd hqb).2
  clear hqb
  go_wp2_with ((with_reducible refine wl_load_sp W1.heap.size S5.out ?_ ?_ ?_); rfl; rfl)
  refine (RP.out _ _).mono ?_; rintro e w6 ⟨rfl, q6⟩
  have Q6 := Lib.hid (Q5.out.trans (q6.mono Q5.out.size))
  have B6 := Lib.hid (B5.out.trans (q6.mono B5.out.size))
  have S6 := Lib.hid (HS.out w6 Q6.out)
  have X6 := Lib.hid (HX.out w6 (Q2.out.trans (Q6.out.mono Q2.out.size)))
  have j35 : w6.cell? ⟨w.heap.size, 35, none⟩ = some (.int .i64 g.px) := gt_at X6.out (j := 10) rfl
  have j26 : w6.cell? ⟨w.heap.size, 26, none⟩ = some (.int .i64 g.pr) := gt_at X6.out (j := 1) rfl
  have s4 : w6.cell? ⟨W1.heap.size, 4, none⟩ = some (.int .i64 g.sp.ba) := by rw [S6.out.cell]; rfl
  have s5 : w6.cell? ⟨W1.heap.size, 5, none⟩ = some (.int .i64 g.sp.li) := by rw [S6.out.cell]; rfl
  have j31 : w6.cell? ⟨w.heap.size, 31, none⟩ = some (.int .i64 g.q) := gt_at X6.out (j := 6) rfl
  have j32 : w6.cell? ⟨w.heap.size, 32, none⟩ = some (.int .i64 g.bu) := gt_at X6.out (j := 7) rfl
  have j33 : w6.cell? ⟨w.heap.size, 33, none⟩ = some (.int .i64 g.se) := gt_at X6.out (j := 8) rfl
  have j34 : w6.cell? ⟨w.heap.size, 34, none⟩ = some (.bool g.by') := gt_at X6.out (j := 9) rfl
  have j36 : w6.cell? ⟨w.heap.size, 36, none⟩ = some (.int .i64 g.qt) := gt_at X6.out (j := 11) rfl
  clear q6 k35
  cases hxb : priceB g.sp g.px
  case false =>
    have E : Hid (r = 52) := Lib.hid (by rw [← RT.out]; unfold tailG; rw [GM.out, QB.out, hxb]; rfl)
    clear hxb
    go_wp2_with fail
    go_ret
    rw [E.out]
    exact ⟨rfl, B6.out⟩
  have XB := Lib.hid hxb
  obtain ⟨y1, y2⟩ := (price_bd hxb).2
  obtain ⟨y3, y4⟩ := (price_bd PB.out).2
  have bal := (head_parts (may_head (price_bd hxb).1)).2.2.2.2.1
  have lil := (head_parts (may_head (price_bd hxb).1)).2.2.2.2.2.1
  obtain ⟨y5, y6⟩ := bal
  obtain ⟨y7, y8⟩ := lil
  clear hxb
  have EN : Hid (nearB g = decide (g.px - g.pr ≤ g.sp.ba ∧ g.pr - g.px ≤ g.sp.ba)) := Lib.hid rfl
  have EW : Hid (worG g = if g.by' then g.q + g.bu + g.qt else g.se + g.qt - g.q) := Lib.hid rfl
  have T124 : Hid (nearB g = false → r = 124) := Lib.hid fun h => by rw [← RT.out]; unfold tailG; rw [GM.out, QB.out, XB.out, h]; rfl
  have T0 : Hid (nearB g = true → r = if g.sp.li < worG g then 125 else 0) := Lib.hid fun h => by rw [← RT.out]; unfold tailG; rw [GM.out, QB.out, XB.out, h]; rfl
  clear RT
  by_cases n1 : g.sp.ba < g.px - g.pr
  · have f7 : decide (g.sp.ba < g.px - g.pr) = true := decide_eq_true n1
    have E : Hid (r = 124) := Lib.hid (T124.out (by rw [EN.out]; exact decide_eq_false (by omega)))
    clear n1
    go_wp2_with fail
    go_ret
    rw [E.out]
    exact ⟨rfl, B6.out⟩
  have f7 : decide (g.sp.ba < g.px - g.pr) = false := decide_eq_false n1
  by_cases n2 : g.sp.ba < -(g.px - g.pr)
  · have f8 : decide (g.sp.ba < -(g.px - g.pr)) = true := decide_eq_true n2
    have E : Hid (r = 124) := Lib.hid (T124.out (by rw [EN.out]; exact decide_eq_false (by omega)))
    clear n1 n2
    go_wp2_with fail
    go_ret
    rw [E.out]
    exact ⟨rfl, B6.out⟩
  have f8 : decide (g.sp.ba < -(g.px - g.pr)) = false := decide_eq_false n2
  have T := Lib.hid (T0.out (by rw [EN.out]; exact decide_eq_true (by omega)))
  clear T0 T124 n1 n2
  cases hby : g.by'
  · rw [hby] at j34
    have EW2 : Hid (worG g = g.se + g.qt - g.q) := Lib.hid (by rw [EW.out, hby]; rfl)
    clear EW hby
    by_cases n3 : g.sp.li < g.se + g.qt - g.q
    · have f9 : decide (g.sp.li < g.se + g.qt - g.q) = true := decide_eq_true n3
      have E : Hid (r = 125) := Lib.hid (by rw [T.out, EW2.out, if_pos n3])
      clear n3
      go_wp2_with fail
      go_ret
      rw [E.out]
      exact ⟨rfl, B6.out⟩
    · have f9 : decide (g.sp.li < g.se + g.qt - g.q) = false := decide_eq_false n3
      have E : Hid (r = 0) := Lib.hid (by rw [T.out, EW2.out, if_neg n3])
      clear n3
      go_wp2_with fail
      go_ret
      rw [E.out]
      exact ⟨rfl, B6.out⟩
  · rw [hby] at j34
    have EW2 : Hid (worG g = g.q + g.bu + g.qt) := Lib.hid (by rw [EW.out, hby]; rfl)
    clear EW hby
    by_cases n3 : g.sp.li < g.q + g.bu + g.qt
    · have f9 : decide (g.sp.li < g.q + g.bu + g.qt) = true := decide_eq_true n3
      have E : Hid (r = 125) := Lib.hid (by rw [T.out, EW2.out, if_pos n3])
      clear n3
      go_wp2_with fail
      go_ret
      rw [E.out]
      exact ⟨rfl, B6.out⟩
    · have f9 : decide (g.sp.li < g.q + g.bu + g.qt) = false := decide_eq_false n3
      have E : Hid (r = 0) := Lib.hid (by rw [T.out, EW2.out, if_neg n3])
      clear n3
      go_wp2_with fail
      go_ret
      rw [E.out]
      exact ⟨rfl, B6.out⟩
end Go.Proofs.Ytmelpikncdnloaa
