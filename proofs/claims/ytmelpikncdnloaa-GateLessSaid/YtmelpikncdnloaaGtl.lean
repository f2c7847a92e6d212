/- GateLess, walked. -/
import Derived.Test.YtmelpikncdnloaaGtk
import Derived.Test.YtmelpikncdnloaaGtd
namespace Go.Proofs.Ytmelpikncdnloaa
open Go.RowKit
set_option linter.unusedVariables false
set_option linter.unusedSimpArgs false

/-- Less of n, by any number. -/
theorem less_rem (a n : Int) (hn : 0 ≤ n ∧ n ≤ 1000000000) : IntKind.i64.wrap (n + 1) = n + 1 ∧ IntKind.u64.wrap (n + 1) = n + 1 ∧ ∃ r, wrap64 ((IntKind.u64.wrap a).tmod (n + 1)) = r ∧ 0 ≤ r ∧ r ≤ n := by
  refine ⟨by rw [IntKind.wrap_i64]; omega, by rw [IntKind.wrap_u64]; omega, ?_⟩
  have u0 : 0 ≤ IntKind.u64.wrap a := by rw [IntKind.wrap_u64]; omega
  have t0 : (IntKind.u64.wrap a).tmod (n + 1) = IntKind.u64.wrap a % (n + 1) := Int.tmod_eq_emod_of_nonneg u0
  have m0 := Int.emod_nonneg (IntKind.u64.wrap a) (show n + 1 ≠ 0 by omega)
  have m1 := Int.emod_lt_of_pos (IntKind.u64.wrap a) (show 0 < n + 1 by omega)
  refine ⟨IntKind.u64.wrap a % (n + 1), ?_, m0, by omega⟩
  rw [t0]
  unfold wrap64
  omega
theorem ok_less {g : Gt} (ok : g.ok) {a b : Int} (h : 0 ≤ a ∧ a ≤ 1000000000) (h' : 0 ≤ b ∧ b ≤ 1000000000) : Gt.ok { g with bu := a, se := b, px := g.pr } :=
  ⟨ok.sp, ok.st, ok.pr, ok.nu, ok.ca, ok.q, by show I64 a; unfold I64; omega, by show I64 b; unfold I64; omega, ok.pr, ok.qt⟩
theorem ok_wide {g : Gt} (ok : g.ok) : (wideG g).ok := by
  refine ⟨⟨ok.sp.nu, ok.sp.ro, ok.sp.ti, ok.sp.lo, ok.sp.ba, ?_, ok.sp.len, ok.sp.sh, ok.sp.cr, ok.sp.la, ok.sp.fi⟩, ok.st, ok.pr, ok.nu, ok.ca, ok.q, ok.bu, ok.se, ok.px, ok.qt⟩
  show I64 10000000
  unfold I64
  omega
theorem wide_cells (g : Gt) : (wideG g).sp.cellL = g.sp.cellL.set 5 (.int .i64 10000000) := rfl

set_option maxRecDepth 100000 in
set_option maxHeartbeats 8000000 in
theorem less12_all (K : GateK) (g : Gt) (a b : Int) (w : World) (ok : g.ok) (ha : I64 a) (hb : I64 b) : Calls Try.prog 4 #[.agg (EG.cells g).toArray, .int .i64 a, .int .i64 b] w fun e w' => e = .returned (.bool true) ∧ Below w.heap.size w w' := by
  have hzg := zero_g12
  obtain ⟨W1, hW1⟩ : ∃ W1, w.alloc (.cells (EG.cells g).toArray 32) = W1 := ⟨_, rfl⟩
  have x1 : EG.Bx 32 W1 w.heap.size g := by rw [← hW1]; exact gbx_new w _
  have b1 : Below w.heap.size w W1 := by rw [← hW1]; exact below_new w _
  have HX := Lib.hid fun (W : World) (q : Below W1.heap.size W1 W) => (show EG.Bx 32 W w.heap.size g from gbx_below x1 q)
  have R1 := Lib.hid (gbx_rng x1)
  have B1 := Lib.hid b1
  have HW1 := Lib.hid hW1
  have C0 := Lib.hid fun W => K.check g W ok
  have KN := Lib.hid fun W => known12 K W
  clear x1 b1 hW1
  go_enter Try.func4, Try.ntmps4
  go_wp2_with (first | (rw [HW1.out]) | ((with_reducible refine rwl_load TG w.heap.size 0 R1.out ?_ ?_ ?_); rfl; rfl))
  refine (C0.out _).mono ?_; rintro e w2 ⟨rfl, q2⟩
  have Q2 := Lib.hid q2
  have R2 := Lib.hid (gbx_rng (HX.out w2 q2))
  have X2 := Lib.hid (HX.out w2 q2)
  by_cases h0 : chk g = 0
  · obtain ⟨-, -, -, -, h5⟩ := chk_tail h0 (.inl rfl)
    obtain ⟨-, -, m3, m4, -⟩ := gmayB_iff.1 (tail_ok.1 h5).1
    obtain ⟨u1, u2, ra, ea, hra⟩ := less_rem a g.bu m3
    obtain ⟨v1, v2, rb, eb, hrb⟩ := less_rem b g.se m4
    have L0 := less_ok h0 hra hrb
    have CL := Lib.hid fun W => K.check { g with bu := ra, se := rb, px := g.pr } W (ok_less ok (by omega) (by omega))
    rw [L0] at CL
    rw [h0]
    obtain ⟨W3, hW3⟩ : ∃ W, (w2.alloc (.cells (EG.cells zeroGt).toArray 32)).setRow w2.heap.size (EG.cells g).toArray = W := ⟨_, rfl⟩
    have N2 := Lib.hid (gbx_new (E := EG) (te := 32) w2 zeroGt)
    have x3 : EG.Bx 32 W3 w2.heap.size g := by rw [← hW3]; exact gt_new w2 g
    have b3 : Below w2.heap.size w2 W3 := by rw [← hW3]; exact gt_newb w2 g
    have c3 : W3.cell? ⟨w2.heap.size, 32, none⟩ = some (.int .i64 g.bu) := gt_at x3 (j := 7) rfl
    have r3 : W3.cell? ⟨w.heap.size, 32, none⟩ = some (.int .i64 g.bu) := gt_at (gbx_below X2.out b3) (j := 7) rfl
    have f3 := gbx_fz x3 32
    obtain ⟨W4, hW4⟩ : ∃ W, W3.setCell ⟨w2.heap.size, 32, none⟩ (.int .i64 ra) = W := ⟨_, rfl⟩
    have x4 : EG.Bx 32 W4 w2.heap.size { g with bu := ra } := by rw [← hW4]; exact gt_put x3 (j := 7) _ rfl rfl
    have b4 : Below w2.heap.size w2 W4 := by rw [← hW4]; exact b3.setCell (Nat.le_refl _) _
    have c4 : W4.cell? ⟨w2.heap.size, 33, none⟩ = some (.int .i64 g.se) := gt_at x4 (j := 8) rfl
    have r4 : W4.cell? ⟨w.heap.size, 33, none⟩ = some (.int .i64 g.se) := gt_at (gbx_below X2.out b4) (j := 8) rfl
    have f4 := gbx_fz x4 33
    obtain ⟨W5, hW5⟩ : ∃ W, W4.setCell ⟨w2.heap.size, 33, none⟩ (.int .i64 rb) = W := ⟨_, rfl⟩
    have x5 : EG.Bx 32 W5 w2.heap.size { g with bu := ra, se := rb } := by rw [← hW5]; exact gt_put x4 (j := 8) _ rfl rfl
    have b5 : Below w2.heap.size w2 W5 := by rw [← hW5]; exact b4.setCell (Nat.le_refl _) _
    have c5 : W5.cell? ⟨w2.heap.size, 35, none⟩ = some (.int .i64 g.px) := gt_at x5 (j := 10) rfl
    have r5 : W5.cell? ⟨w.heap.size, 26, none⟩ = some (.int .i64 g.pr) := gt_at (gbx_below X2.out b5) (j := 1) rfl
    have f5 := gbx_fz x5 35
    obtain ⟨W6, hW6⟩ : ∃ W, W5.setCell ⟨w2.heap.size, 35, none⟩ (.int .i64 g.pr) = W := ⟨_, rfl⟩
    have x6 : EG.Bx 32 W6 w2.heap.size { g with bu := ra, se := rb, px := g.pr } := by rw [← hW6]; exact gt_put x5 (j := 10) _ rfl rfl
    have b6 : Below w2.heap.size w2 W6 := by rw [← hW6]; exact b5.setCell (Nat.le_refl _) _
    have R6 := Lib.hid (gbx_rng x6)
    have P6 := Lib.hid (q2.trans (b6.mono q2.size))
    have HW3 := Lib.hid hW3
    have HW4 := Lib.hid hW4
    have HW5 := Lib.hid hW5
    have HW6 := Lib.hid hW6
    obtain ⟨m3a, m3b⟩ := m3
    obtain ⟨m4a, m4b⟩ := m4
    clear K ok ha hb x3 x4 x5 x6 b3 b4 b5 b6 hW3 hW4 hW5 hW6 q2 h0 h5 L0 hra hrb C0
    go_wp2_with (first
      | ((with_reducible refine rwl_load TG w.heap.size 0 R2.out ?_ ?_ ?_); rfl; rfl)
      | ((with_reducible refine rwl_store TG g w2.heap.size N2.out ?_ ?_ ?_); rfl; rfl; rw [HW3.out])
      | (rw [HW4.out])
      | (rw [HW5.out])
      | (rw [HW6.out])
      | ((with_reducible refine rwl_load TG w2.heap.size 0 R6.out ?_ ?_ ?_); rfl; rfl))
    refine (CL.out _).mono ?_; rintro e w7 ⟨rfl, q7⟩
    have Q7 := Lib.hid (P6.out.trans (q7.mono P6.out.size))
    clear q7
    go_wp2_with fail
    refine (KN.out _).mono ?_; rintro e w8 ⟨rfl, q8⟩
    have Q8 := Lib.hid (Q7.out.trans (q8.mono Q7.out.size))
    clear q8
    go_wp2_with fail
    go_ret
    exact ⟨rfl, B1.out.trans (Q8.out.mono B1.out.size)⟩
  by_cases h1 : chk g = 125
  · obtain ⟨⟨z1, z2⟩, ⟨z3, z4⟩, ⟨z5, z6⟩, ⟨z7, z8⟩, hwd⟩ := wide_lim h1
    have CL := Lib.hid fun W => K.check (wideG g) W (ok_wide ok)
    rw [h1]
    obtain ⟨W3, hW3⟩ : ∃ W, (w2.alloc (.cells (EG.cells zeroGt).toArray 32)).setRow w2.heap.size (EG.cells g).toArray = W := ⟨_, rfl⟩
    have N2 := Lib.hid (gbx_new (E := EG) (te := 32) w2 zeroGt)
    have x3 : EG.Bx 32 W3 w2.heap.size g := by rw [← hW3]; exact gt_new w2 g
    have b3 : Below w2.heap.size w2 W3 := by rw [← hW3]; exact gt_newb w2 g
    have c3 : W3.cell? ⟨w2.heap.size, 5, none⟩ = some (.int .i64 g.sp.li) := by rw [gbx_cell x3, gt_sp (by omega)]; rfl
    have f3 := gbx_fz x3 5
    obtain ⟨W4, hW4⟩ : ∃ W, W3.setCell ⟨w2.heap.size, 5, none⟩ (.int .i64 10000000) = W := ⟨_, rfl⟩
    have x4 : EG.Bx 32 W4 w2.heap.size (wideG g) := by rw [← hW4]; exact gt_sput x3 (wideG g) (by omega) (wide_cells g) rfl
    have b4 : Below w2.heap.size w2 W4 := by rw [← hW4]; exact b3.setCell (Nat.le_refl _) _
    have R4 := Lib.hid (gbx_rng x4)
    have P4 := Lib.hid (q2.trans (b4.mono q2.size))
    have HW3 := Lib.hid hW3
    have HW4 := Lib.hid hW4
    clear K ok ha hb x3 x4 b3 b4 hW3 hW4 q2 h0 h1 C0
    go_wp2_with (first
      | ((with_reducible refine rwl_load TG w.heap.size 0 R2.out ?_ ?_ ?_); rfl; rfl)
      | ((with_reducible refine rwl_store TG g w2.heap.size N2.out ?_ ?_ ?_); rfl; rfl; rw [HW3.out])
      | (rw [HW4.out])
      | ((with_reducible refine rwl_load TG w2.heap.size 0 R4.out ?_ ?_ ?_); rfl; rfl))
    refine (CL.out _).mono ?_; rintro e w5 ⟨rfl, q5⟩
    have Q5 := Lib.hid (P4.out.trans (q5.mono P4.out.size))
    have X5 := Lib.hid (HX.out w5 Q5.out)
    have k31 : w5.cell? ⟨w.heap.size, 31, none⟩ = some (.int .i64 g.q) := gt_at X5.out (j := 6) rfl
    have k32 : w5.cell? ⟨w.heap.size, 32, none⟩ = some (.int .i64 g.bu) := gt_at X5.out (j := 7) rfl
    have k33 : w5.cell? ⟨w.heap.size, 33, none⟩ = some (.int .i64 g.se) := gt_at X5.out (j := 8) rfl
    have k36 : w5.cell? ⟨w.heap.size, 36, none⟩ = some (.int .i64 g.qt) := gt_at X5.out (j := 11) rfl
    clear q5 c3 f3
    by_cases hw' : worG g ≤ 10000000
    · rw [hwd, if_pos hw']
      clear hwd
      cases hbu : g.by'
      case false =>
        have hw : worG g = g.se + g.qt - g.q := by unfold worG; rw [hbu]; rfl
        have dd : decide (-10000000 ≤ g.q - g.se - g.qt) = true := decide_eq_true (by omega)
        have k34 : w5.cell? ⟨w.heap.size, 34, none⟩ = some (.bool false) := by rw [← hbu]; exact gt_at X5.out (j := 9) rfl
        clear hw hbu
        go_wp2_with fail
        refine (KN.out _).mono ?_; rintro e w8 ⟨rfl, q8⟩
        have Q8 := Lib.hid (Q5.out.trans (q8.mono Q5.out.size))
        clear q8
        go_wp2_with fail
        go_ret
        exact ⟨rfl, B1.out.trans (Q8.out.mono B1.out.size)⟩
      case true =>
        have hw : worG g = g.q + g.bu + g.qt := by unfold worG; rw [hbu]; rfl
        have dd : decide (g.q + g.bu + g.qt ≤ 10000000) = true := decide_eq_true (by omega)
        have k34 : w5.cell? ⟨w.heap.size, 34, none⟩ = some (.bool true) := by rw [← hbu]; exact gt_at X5.out (j := 9) rfl
        clear hw hbu
        go_wp2_with fail
        refine (KN.out _).mono ?_; rintro e w8 ⟨rfl, q8⟩
        have Q8 := Lib.hid (Q5.out.trans (q8.mono Q5.out.size))
        clear q8
        go_wp2_with fail
        go_ret
        exact ⟨rfl, B1.out.trans (Q8.out.mono B1.out.size)⟩
    · rw [hwd, if_neg hw']
      clear hwd
      cases hbu : g.by'
      case false =>
        have hw : worG g = g.se + g.qt - g.q := by unfold worG; rw [hbu]; rfl
        have dd : decide (-10000000 ≤ g.q - g.se - g.qt) = false := decide_eq_false (by omega)
        have k34 : w5.cell? ⟨w.heap.size, 34, none⟩ = some (.bool false) := by rw [← hbu]; exact gt_at X5.out (j := 9) rfl
        clear hw hbu
        go_wp2_with fail
        refine (KN.out _).mono ?_; rintro e w8 ⟨rfl, q8⟩
        have Q8 := Lib.hid (Q5.out.trans (q8.mono Q5.out.size))
        clear q8
        go_wp2_with fail
        go_ret
        exact ⟨rfl, B1.out.trans (Q8.out.mono B1.out.size)⟩
      case true =>
        have hw : worG g = g.q + g.bu + g.qt := by unfold worG; rw [hbu]; rfl
        have dd : decide (g.q + g.bu + g.qt ≤ 10000000) = false := decide_eq_false (by omega)
        have k34 : w5.cell? ⟨w.heap.size, 34, none⟩ = some (.bool true) := by rw [← hbu]; exact gt_at X5.out (j := 9) rfl
        clear hw hbu
        go_wp2_with fail
        refine (KN.out _).mono ?_; rintro e w8 ⟨rfl, q8⟩
        have Q8 := Lib.hid (Q5.out.trans (q8.mono Q5.out.size))
        clear q8
        go_wp2_with fail
        go_ret
        exact ⟨rfl, B1.out.trans (Q8.out.mono B1.out.size)⟩
  generalize chk g = t at *
  have d0 : (t == 0) = false := by simp [h0]
  have d1 : (t == 125) = false := by simp [h1]
  clear h0 h1 q2 K ok
  go_wp2_with fail
  refine (KN.out _).mono ?_; rintro e w8 ⟨rfl, q8⟩
  have Q8 := Lib.hid (Q2.out.trans (q8.mono Q2.out.size))
  clear q8
  go_wp2_with fail
  go_ret
  exact ⟨rfl, B1.out.trans (Q8.out.mono B1.out.size)⟩
end Go.Proofs.Ytmelpikncdnloaa
