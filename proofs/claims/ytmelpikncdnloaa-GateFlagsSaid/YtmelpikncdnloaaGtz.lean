/- The program's gate: Check and CheckCancel, over spec's own contracts. -/
import Derived.Test.YtmelpikncdnloaaGtk
import Derived.Test.YtmelpikncdnloaaVg
namespace Go.Proofs.Ytmelpikncdnloaa
open Go.RowKit
set_option linter.unusedVariables false
set_option linter.unusedSimpArgs false

theorem gt_all {w : World} {b : Nat} {g : Gt} {te : TypeId} (h : EG.Bx te w b g) : w.rangeAt b 0 (EG.cells g) := fun j v hj => by
  rw [Nat.zero_add, gbx_cell h, hj]
theorem i64_small {n m : Int} (h : I64 n) : I64 n := h
set_option maxRecDepth 100000 in
theorem pmayopen_any (n : Int) (hn : I64 n) (w : World) : Calls Try.prog 19 #[.int .i64 n] w fun e w' => e = .returned (.bool (decide (0 ≤ n ∧ n ≤ 1000000000))) ∧ w = w' := by
  have WI := Lib.hid fun W => pwithin_any n 1000000000 hn (by unfold I64; omega) W
  by_cases c : 0 ≤ n
  · have d : decide (n < 0) = false := decide_eq_false (by omega)
    have d' : decide (0 ≤ n) = true := decide_eq_true c
    have E : Hid (withinB n 1000000000 = decide (0 ≤ n ∧ n ≤ 1000000000)) := Lib.hid (decide_eq_decide.2 ⟨fun h => by omega, fun h => by omega⟩)
    obtain ⟨r, hr⟩ : ∃ r, withinB n 1000000000 = r := ⟨_, rfl⟩
    rw [hr] at WI E
    clear hr c
    go_enter Try.func19, Try.ntmps19
    go_wp2_with fail
    refine (WI.out _).mono ?_; rintro e w1 ⟨rfl, rfl⟩
    go_wp2_with fail
    go_ret
    refine ⟨?_, rfl⟩
    rw [← E.out]
    rfl
  · have d : decide (n < 0) = true := decide_eq_true (by omega)
    have d' : decide (0 ≤ n) = false := decide_eq_false c
    have E : Hid (decide (0 ≤ n ∧ n ≤ 1000000000) = false) := Lib.hid (decide_eq_false fun h => c h.1)
    clear c
    go_enter Try.func19, Try.ntmps19
    go_wp2_with fail
    go_ret
    refine ⟨?_, rfl⟩
    rw [E.out]
    rfl
/-- What stands at the gate ahead of the order may be. -/
def pmG (g : Gt) : Bool := priceB g.sp g.pr && decide (0 ≤ g.bu ∧ g.bu ≤ 1000000000) && decide (0 ≤ g.se ∧ g.se ≤ 1000000000) && withinB g.q 10000000
theorem gmayB_pm (g : Gt) : gmayB g = (decide (g.st = 1) && pmG g) := by
  rw [Bool.eq_iff_iff, gmayB_iff]
  unfold pmG withinB
  simp only [Bool.and_eq_true, decide_eq_true_eq]
  constructor
  · rintro ⟨a, b, c, d, e⟩
    exact ⟨a, ⟨⟨b, c⟩, d⟩, by omega⟩
  · rintro ⟨a, ⟨⟨b, c⟩, d⟩, e⟩
    exact ⟨a, b, c, d, by omega⟩
set_option maxRecDepth 100000 in
set_option maxHeartbeats 8000000 in
theorem pgmay_any (g : Gt) (w : World) (ok : g.ok) : Calls Try.prog 10 #[.agg (EG.cells g).toArray] w fun e w' => e = .returned (.bool (pmG g)) ∧ Below w.heap.size w w' := by
  obtain ⟨W1, hW1⟩ : ∃ W1, w.alloc (.cells (EG.cells g).toArray 32) = W1 := ⟨_, rfl⟩
  have x1 : EG.Bx 32 W1 w.heap.size g := by rw [← hW1]; exact gbx_new w g
  have b1 : Below w.heap.size w W1 := by rw [← hW1]; exact below_new w _
  have k27 : W1.cell? ⟨w.heap.size, 26, none⟩ = some (.int .i64 g.pr) := gt_at x1 (j := 1) rfl
  have SPL := Lib.hid (gt_spl x1)
  have L := Lib.hid g.len
  have HX := Lib.hid fun (W : World) (q : Below W1.heap.size W1 W) => (show EG.Bx 32 W w.heap.size g from gbx_below x1 q)
  have HW1 := Lib.hid hW1
  have B1 := Lib.hid b1
  have RP := Lib.hid fun W => pisprice_any g.sp g.pr W ok.sp
  have M1 := Lib.hid fun W => pmayopen_any g.bu ok.bu W
  have M2 := Lib.hid fun W => pmayopen_any g.se ok.se W
  have WI := Lib.hid fun W => pwithin_any g.q 10000000 ok.q (by unfold I64; omega) W
  obtain ⟨r1, h1⟩ : ∃ r, priceB g.sp g.pr = r := ⟨_, rfl⟩
  obtain ⟨r2, h2⟩ : ∃ r, decide (0 ≤ g.bu ∧ g.bu ≤ 1000000000) = r := ⟨_, rfl⟩
  obtain ⟨r3, h3⟩ : ∃ r, decide (0 ≤ g.se ∧ g.se ≤ 1000000000) = r := ⟨_, rfl⟩
  obtain ⟨r4, h4⟩ : ∃ r, withinB g.q 10000000 = r := ⟨_, rfl⟩
  have E : Hid (pmG g = (r1 && r2 && r3 && r4)) := Lib.hid (by rw [← h1, ← h2, ← h3, ← h4]; rfl)
  rw [h1] at RP
  rw [h2] at M1
  rw [h3] at M2
  rw [h4] at WI
  clear h1 h2 h3 h4 x1 b1 hW1 ok
  go_enter Try.func10, Try.ntmps10
  go_wp2_with (first | (rw [HW1.out]) | ((with_reducible refine wl_spG L.out w.heap.size 0 SPL.out ?_ ?_ ?_); rfl; rfl))
  refine (RP.out _).mono ?_; rintro e w3 ⟨rfl, q3⟩
  have B3 := Lib.hid (B1.out.trans (q3.mono B1.out.size))
  have X3 := Lib.hid (HX.out w3 q3)
  have j32 : w3.cell? ⟨w.heap.size, 32, none⟩ = some (.int .i64 g.bu) := gt_at X3.out (j := 7) rfl
  have j33 : w3.cell? ⟨w.heap.size, 33, none⟩ = some (.int .i64 g.se) := gt_at X3.out (j := 8) rfl
  have j31 : w3.cell? ⟨w.heap.size, 31, none⟩ = some (.int .i64 g.q) := gt_at X3.out (j := 6) rfl
  clear q3 k27
  cases r1
  · go_wp2_with fail
    go_ret
    rw [E.out]
    exact ⟨rfl, B3.out⟩
  go_wp2_with fail
  refine (M1.out _).mono ?_; rintro e w4 ⟨rfl, rfl⟩
  cases r2
  · go_wp2_with fail
    go_ret
    rw [E.out]
    exact ⟨rfl, B3.out⟩
  go_wp2_with fail
  refine (M2.out _).mono ?_; rintro e w4 ⟨rfl, rfl⟩
  cases r3
  · go_wp2_with fail
    go_ret
    rw [E.out]
    exact ⟨rfl, B3.out⟩
  go_wp2_with fail
  refine (WI.out _).mono ?_; rintro e w4 ⟨rfl, rfl⟩
  go_wp2_with fail
  go_ret
  rw [E.out]
  exact ⟨rfl, B3.out⟩
set_option maxRecDepth 100000 in
set_option maxHeartbeats 8000000 in
theorem pbeyond_any (g : Gt) (w : World) (y7 : 0 ≤ g.sp.li) (y8 : g.sp.li ≤ 10000000) (z1 : 0 ≤ g.bu) (z2 : g.bu ≤ 1000000000) (z3 : 0 ≤ g.se) (z4 : g.se ≤ 1000000000) (z5 : -10000000 ≤ g.q) (z6 : g.q ≤ 10000000) (z7 : 1 ≤ g.qt) (z8 : g.qt ≤ 1000000) :
    Calls Try.prog 14 #[.agg (EG.cells g).toArray] w fun e w' => e = .returned (.bool (decide (g.sp.li < worG g))) ∧ Below w.heap.size w w' := by
  obtain ⟨W1, hW1⟩ : ∃ W1, w.alloc (.cells (EG.cells g).toArray 32) = W1 := ⟨_, rfl⟩
  have x1 : EG.Bx 32 W1 w.heap.size g := by rw [← hW1]; exact gbx_new w g
  have b1 : Below w.heap.size w W1 := by rw [← hW1]; exact below_new w _
  have s5 : W1.cell? ⟨w.heap.size, 5, none⟩ = some (.int .i64 g.sp.li) := by rw [gbx_cell x1, gt_sp (by omega)]; rfl
  have j31 : W1.cell? ⟨w.heap.size, 31, none⟩ = some (.int .i64 g.q) := gt_at x1 (j := 6) rfl
  have j32 : W1.cell? ⟨w.heap.size, 32, none⟩ = some (.int .i64 g.bu) := gt_at x1 (j := 7) rfl
  have j33 : W1.cell? ⟨w.heap.size, 33, none⟩ = some (.int .i64 g.se) := gt_at x1 (j := 8) rfl
  have j34 : W1.cell? ⟨w.heap.size, 34, none⟩ = some (.bool g.by') := gt_at x1 (j := 9) rfl
  have j36 : W1.cell? ⟨w.heap.size, 36, none⟩ = some (.int .i64 g.qt) := gt_at x1 (j := 11) rfl
  have HW1 := Lib.hid hW1
  have B1 := Lib.hid b1
  have EW : Hid (worG g = if g.by' then g.q + g.bu + g.qt else g.se + g.qt - g.q) := Lib.hid rfl
  clear x1 b1 hW1
  go_enter Try.func14, Try.ntmps14
  cases hby : g.by'
  · rw [hby] at j34
    have E : Hid (decide (g.sp.li < worG g) = decide (g.q - g.se - g.qt < -g.sp.li)) := Lib.hid (by rw [EW.out, hby]; exact decide_eq_decide.2 ⟨fun h => by simp at h; omega, fun h => by simp; omega⟩)
    clear EW hby
    go_wp2_with (rw [HW1.out])
    go_ret
    rw [E.out]
    exact ⟨rfl, B1.out⟩
  · rw [hby] at j34
    have E : Hid (decide (g.sp.li < worG g) = decide (g.sp.li < g.q + g.bu + g.qt)) := Lib.hid (by rw [EW.out, hby]; rfl)
    clear EW hby
    go_wp2_with (rw [HW1.out])
    go_ret
    rw [E.out]
    exact ⟨rfl, B1.out⟩
set_option maxRecDepth 100000 in
theorem pcancel_any (nu ca : Int) (ki de : Bool) (w : World) (hn : 0 ≤ nu ∧ nu ≤ 4294967295) (hc : I64 ca) : Calls Try.prog 8 #[.agg #[.int .u32 nu, .int .i64 ca, .bool ki, .bool de]] w fun e w' => e = .returned (.int .i64 (if nu = 0 then 2 else 0)) ∧ Below w.heap.size w w' := by
  obtain ⟨W1, hW1⟩ : ∃ W1, w.alloc (.cells #[.int .u32 nu, .int .i64 ca, .bool ki, .bool de] 30) = W1 := ⟨_, rfl⟩
  have B1 : Hid (Below w.heap.size w W1) := Lib.hid (by rw [← hW1]; exact below_new w _)
  have k0 : W1.cell? ⟨w.heap.size, 0, none⟩ = some (.int .u32 nu) := by
    rw [← hW1, cell_of_row _ _ _ _ _ _ (heap_alloc_new w _)]; rfl
  have HW1 := Lib.hid hW1
  obtain ⟨r, hr⟩ : ∃ r : Int, (if nu = 0 then (2 : Int) else 0) = r := ⟨_, rfl⟩
  rw [hr]
  have R := Lib.hid hr
  clear hW1 hr
  by_cases c : nu = 0
  · have E : Hid (r = 2) := Lib.hid (by rw [← R.out]; exact if_pos c)
    subst c
    clear R
    go_enter Try.func8, Try.ntmps8
    go_wp2_with (rw [HW1.out])
    go_ret
    rw [E.out]
    exact ⟨rfl, B1.out⟩
  · have d : (nu == 0) = false := by simp [c]
    have E : Hid (r = 0) := Lib.hid (by rw [← R.out]; exact if_neg c)
    clear c R
    go_enter Try.func8, Try.ntmps8
    go_wp2_with (rw [HW1.out])
    go_ret
    rw [E.out]
    exact ⟨rfl, B1.out⟩
set_option maxRecDepth 100000 in
set_option maxHeartbeats 8000000 in
theorem pcheck_any (g : Gt) (w : World) (ok : g.ok) : Calls Try.prog 6 #[.agg (EG.cells g).toArray] w fun e w' => e = .returned (.int .i64 (chk g)) ∧ Below w.heap.size w w' := by
  have hzs := zero_s12
  obtain ⟨W1, hW1⟩ : ∃ W1, w.alloc (.cells (EG.cells g).toArray 32) = W1 := ⟨_, rfl⟩
  have x1 : EG.Bx 32 W1 w.heap.size g := by rw [← hW1]; exact gbx_new w g
  have b1 : Below w.heap.size w W1 := by rw [← hW1]; exact below_new w _
  have HX := Lib.hid fun (W : World) (q : Below W1.heap.size W1 W) => (show EG.Bx 32 W w.heap.size g from gbx_below x1 q)
  have B1 := Lib.hid b1
  have HW1 := Lib.hid hW1
  have SPL := Lib.hid (gt_spl x1)
  have L := Lib.hid g.len
  have OK := Lib.hid ok
  obtain ⟨r, hr⟩ : ∃ r, chk g = r := ⟨_, rfl⟩
  have R := Lib.hid hr
  rw [hr]
  have X0 := Lib.hid (box_new W1 (s := zeroSp) rfl)
  obtain ⟨W2, hW2⟩ : ∃ W, (W1.alloc (.cells zeroSp.cells 25)).setRow W1.heap.size g.sp.cells = W := ⟨_, rfl⟩
  have x2 : Box W2 W1.heap.size g.sp := by rw [← hW2]; exact box_set X0.out g.len
  have b2 : Below W1.heap.size W1 W2 := by rw [← hW2]; exact below_row' (below_new _ _) (Nat.le_refl _)
  have Q2 := Lib.hid b2
  have HS := Lib.hid fun (W : World) (q : Below W2.heap.size W2 W) => (show Box W W1.heap.size g.sp from x2.below q)
  have HW2 := Lib.hid hW2
  have B2 := Lib.hid (b1.trans (b2.mono b1.size))
  have RM := Lib.hid fun W => pgmay_any g W ok
  have RP := Lib.hid fun W => pisprice_any g.sp g.px W ok.sp
  have RQ := Lib.hid fun W => pisqty_any g.sp g.qt W ok.sp
  have RB := Lib.hid fun W => pband_any g.sp g.pr g.px W ok.sp ok.pr ok.px
  have G2 := Lib.hid (gt_all (HX.out W2 Q2.out))
  have j25 : W2.cell? ⟨w.heap.size, 25, none⟩ = some (.int .u8 g.st) := gt_at (HX.out W2 Q2.out) (j := 0) rfl
  have j29 : W2.cell? ⟨w.heap.size, 29, none⟩ = some (.bool g.ki) := gt_at (HX.out W2 Q2.out) (j := 4) rfl
  have j30 : W2.cell? ⟨w.heap.size, 30, none⟩ = some (.bool g.de) := gt_at (HX.out W2 Q2.out) (j := 5) rfl
  have S2 := Lib.hid (HS.out W2 (Below.refl _ _))
  clear x1 b1 hW1 hr ok x2 b2 hW2
  go_enter Try.func6, Try.ntmps6
  cases hde : g.de
  case true =>
    rw [hde] at j30
    have E : Hid (r = 120) := Lib.hid (by rw [← R.out]; unfold chk; rw [hde]; rfl)
    go_wp2_with (first | (rw [HW1.out]) | ((with_reducible refine wl_spG L.out w.heap.size 0 SPL.out ?_ ?_ ?_); rfl; rfl) | ((with_reducible refine wl_store_sp g.sp W1.heap.size X0.out L.out ?_ ?_ ?_); rfl; rfl; rw [HW2.out]))
    go_ret
    rw [E.out]
    exact ⟨rfl, B2.out⟩
  rw [hde] at j30
  cases hki : g.ki
  case true =>
    rw [hki] at j29
    have E : Hid (r = 121) := Lib.hid (by rw [← R.out]; unfold chk; rw [hde, hki]; rfl)
    go_wp2_with (first | (rw [HW1.out]) | ((with_reducible refine wl_spG L.out w.heap.size 0 SPL.out ?_ ?_ ?_); rfl; rfl) | ((with_reducible refine wl_store_sp g.sp W1.heap.size X0.out L.out ?_ ?_ ?_); rfl; rfl; rw [HW2.out]))
    go_ret
    rw [E.out]
    exact ⟨rfl, B2.out⟩
  rw [hki] at j29
  by_cases c3 : g.st = 3
  · have d3 : (g.st == 3) = true := by simp [c3]
    have E : Hid (r = 50) := Lib.hid (by rw [← R.out]; unfold chk; rw [hde, hki, if_neg (by decide), if_neg (by decide), if_pos c3])
    clear c3
    go_wp2_with (first | (rw [HW1.out]) | ((with_reducible refine wl_spG L.out w.heap.size 0 SPL.out ?_ ?_ ?_); rfl; rfl) | ((with_reducible refine wl_store_sp g.sp W1.heap.size X0.out L.out ?_ ?_ ?_); rfl; rfl; rw [HW2.out]))
    go_ret
    rw [E.out]
    exact ⟨rfl, B2.out⟩
  have d3 : (g.st == 3) = false := by simp [c3]
  by_cases c2 : g.st = 2
  · have d2 : (g.st == 2) = true := by simp [c2]
    have E : Hid (r = 122) := Lib.hid (by rw [← R.out]; unfold chk; rw [hde, hki, if_neg (by decide), if_neg (by decide), if_neg c3, if_pos c2])
    clear c3 c2
    go_wp2_with (first | (rw [HW1.out]) | ((with_reducible refine wl_spG L.out w.heap.size 0 SPL.out ?_ ?_ ?_); rfl; rfl) | ((with_reducible refine wl_store_sp g.sp W1.heap.size X0.out L.out ?_ ?_ ?_); rfl; rfl; rw [HW2.out]))
    go_ret
    rw [E.out]
    exact ⟨rfl, B2.out⟩
  have d2 : (g.st == 2) = false := by simp [c2]
  have RT : Hid (tailG g = r) := Lib.hid (by rw [← R.out, chk_of hde hki c3 c2])
  clear c2 c3 hde hki R
  have GE := Lib.hid (gmayB_pm g)
  have BAD : Hid (gmayB g = false → r = 2) := Lib.hid fun h => by rw [← RT.out]; unfold tailG; rw [h]; rfl
  by_cases c1 : g.st = 1
  case neg =>
    have d1 : (g.st != 1) = true := by simp [c1]
    have E : Hid (r = 2) := Lib.hid (BAD.out (by rw [GE.out]; simp [c1]))
    clear c1
    go_wp2_with (first | (rw [HW1.out]) | ((with_reducible refine wl_spG L.out w.heap.size 0 SPL.out ?_ ?_ ?_); rfl; rfl) | ((with_reducible refine wl_store_sp g.sp W1.heap.size X0.out L.out ?_ ?_ ?_); rfl; rfl; rw [HW2.out]))
    go_ret
    rw [E.out]
    exact ⟨rfl, B2.out⟩
  have d1 : (g.st != 1) = false := by simp [c1]
  have GM : Hid (gmayB g = pmG g) := Lib.hid (by rw [GE.out]; simp [c1])
  clear c1 GE
  go_wp2_with (first | (rw [HW1.out]) | ((with_reducible refine wl_spG L.out w.heap.size 0 SPL.out ?_ ?_ ?_); rfl; rfl) | ((with_reducible refine wl_store_sp g.sp W1.heap.size X0.out L.out ?_ ?_ ?_); rfl; rfl; rw [HW2.out]) | ((with_reducible refine rwl_load TG w.heap.size 0 G2.out ?_ ?_ ?_); rfl; rfl))
  refine (RM.out _).mono ?_; rintro e w3 ⟨rfl, q3⟩
  have Q3 := Lib.hid q3
  have B3 := Lib.hid (B2.out.trans (q3.mono B2.out.size))
  have S3 := Lib.hid (HS.out w3 q3)
  have k36 : w3.cell? ⟨w.heap.size, 36, none⟩ = some (.int .i64 g.qt) := gt_at (HX.out w3 (Q2.out.trans (q3.mono Q2.out.size))) (j := 11) rfl
  clear q3 j25 j29 j30 RM
  cases hpm : pmG g
  case false =>
    have E : Hid (r = 2) := Lib.hid (BAD.out (by rw [GM.out, hpm]))
    clear hpm
    go_wp2_with fail
    go_ret
    rw [E.out]
    exact ⟨rfl, B3.out⟩
  have GT := Lib.hid (GM.out.trans hpm)
  clear hpm BAD GM
  go_wp2_with ((with_reducible refine wl_load_sp W1.heap.size S3.out ?_ ?_ ?_); rfl; rfl)
  refine (RQ.out _).mono ?_; rintro e w4 ⟨rfl, q4⟩
  have Q4 := Lib.hid (Q3.out.trans (q4.mono Q3.out.size))
  have B4 := Lib.hid (B3.out.trans (q4.mono B3.out.size))
  have S4 := Lib.hid (HS.out w4 Q4.out)
  have k35 : w4.cell? ⟨w.heap.size, 35, none⟩ = some (.int .i64 g.px) := gt_at (HX.out w4 (Q2.out.trans (Q4.out.mono Q2.out.size))) (j := 10) rfl
  clear q4 k36 RQ
  cases hqb : qtyB g.sp g.qt
  case false =>
    have E : Hid (r = 123) := Lib.hid (by rw [← RT.out]; unfold tailG; rw [GT.out, hqb]; rfl)
    clear hqb
    go_wp2_with fail
    go_ret
    rw [E.out]
    exact ⟨rfl, B4.out⟩
  have QB := Lib.hid hqb
  clear hqb
  go_wp2_with ((with_reducible refine wl_load_sp W1.heap.size S4.out ?_ ?_ ?_); rfl; rfl)
  refine (RP.out _).mono ?_; rintro e w5 ⟨rfl, q5⟩
  have Q5 := Lib.hid (Q4.out.trans (q5.mono Q4.out.size))
  have B5 := Lib.hid (B4.out.trans (q5.mono B4.out.size))
  have S5 := Lib.hid (HS.out w5 Q5.out)
  have X5 := Lib.hid (HX.out w5 (Q2.out.trans (Q5.out.mono Q2.out.size)))
  have j35 : w5.cell? ⟨w.heap.size, 35, none⟩ = some (.int .i64 g.px) := gt_at X5.out (j := 10) rfl
  have j26 : w5.cell? ⟨w.heap.size, 26, none⟩ = some (.int .i64 g.pr) := gt_at X5.out (j := 1) rfl
  clear q5 k35 RP
  cases hxb : priceB g.sp g.px
  case false =>
    have E : Hid (r = 52) := Lib.hid (by rw [← RT.out]; unfold tailG; rw [GT.out, QB.out, hxb]; rfl)
    clear hxb
    go_wp2_with fail
    go_ret
    rw [E.out]
    exact ⟨rfl, B5.out⟩
  have XB := Lib.hid hxb
  clear hxb
  have EN : Hid (nearB g = bandB g.sp g.pr g.px) := Lib.hid (by rw [may_band (price_bd XB.out).1]; exact decide_eq_decide.2 ⟨fun h => ⟨h.2, h.1⟩, fun h => ⟨h.2, h.1⟩⟩)
  go_wp2_with ((with_reducible refine wl_load_sp W1.heap.size S5.out ?_ ?_ ?_); rfl; rfl)
  refine (RB.out _).mono ?_; rintro e w6 ⟨rfl, q6⟩
  have Q6 := Lib.hid (Q5.out.trans (q6.mono Q5.out.size))
  have B6 := Lib.hid (B5.out.trans (q6.mono B5.out.size))
  have G6 := Lib.hid (gt_all (HX.out w6 (Q2.out.trans (Q6.out.mono Q2.out.size))))
  clear q6 j35 j26 RB
  cases hnb : bandB g.sp g.pr g.px
  case false =>
    have E : Hid (r = 124) := Lib.hid (by rw [← RT.out]; unfold tailG; rw [GT.out, QB.out, XB.out, EN.out, hnb]; rfl)
    clear hnb
    go_wp2_with fail
    go_ret
    rw [E.out]
    exact ⟨rfl, B6.out⟩
  have T0 : Hid (r = if g.sp.li < worG g then 125 else 0) := Lib.hid (by rw [← RT.out]; unfold tailG; rw [GT.out, QB.out, XB.out, EN.out, hnb]; rfl)
  obtain ⟨m1, m2, m3, m4, m5, m6⟩ := gmayB_iff.1 GT.out
  have lil := (head_parts (may_head (price_bd XB.out).1)).2.2.2.2.2.1
  have qq := (qty_bd QB.out).2
  have RY := Lib.hid fun W => pbeyond_any g W (by omega) (by omega) m3.1 m3.2 m4.1 m4.2 m5 m6 qq.1 qq.2
  clear hnb m1 m2 m3 m4 m5 m6 lil qq EN RT
  go_wp2_with ((with_reducible refine rwl_load TG w.heap.size 0 G6.out ?_ ?_ ?_); rfl; rfl)
  refine (RY.out _).mono ?_; rintro e w7 ⟨rfl, q7⟩
  have B7 := Lib.hid (B6.out.trans (q7.mono B6.out.size))
  clear q7 RY
  by_cases n3 : g.sp.li < worG g
  · have f9 : decide (g.sp.li < worG g) = true := decide_eq_true n3
    have E : Hid (r = 125) := Lib.hid (by rw [T0.out, if_pos n3])
    clear n3
    rw [f9]
    go_wp2_with fail
    go_ret
    rw [E.out]
    exact ⟨rfl, B7.out⟩
  · have f9 : decide (g.sp.li < worG g) = false := decide_eq_false n3
    have E : Hid (r = 0) := Lib.hid (by rw [T0.out, if_neg n3])
    clear n3
    rw [f9]
    go_wp2_with fail
    go_ret
    rw [E.out]
    exact ⟨rfl, B7.out⟩
/-- All that is asked. -/
theorem gate : GateK := ⟨pcheck_any, pcancel_any⟩
end Go.Proofs.Ytmelpikncdnloaa
