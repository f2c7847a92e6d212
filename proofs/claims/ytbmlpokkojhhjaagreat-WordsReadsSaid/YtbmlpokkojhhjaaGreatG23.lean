/- The program's words: the parts of a kind, in their order: the walk (by genWfq.py). -/
import Derived.Test.YtbmlpokkojhhjaaGreatG22
namespace Go.Proofs.YtbmlpokkojhhjaaGreat.Wz
open Go.RowKit
set_option linter.unusedVariables false
set_option linter.unusedSimpArgs false

set_option maxRecDepth 100000 in
set_option maxHeartbeats 64000000 in
theorem parts15 (v : Int) (hv : 0 ≤ v ∧ v ≤ 255) (w : World) : Calls Tryz.prog 14 #[.int .u8 v] w (PartsOk v w) := by
  have A0 := Lib.hid fun p u k U => at0 p u k U
  have A1 := Lib.hid fun p u k U => at1 p u k U
  have A2 := Lib.hid fun p u k U => at2 p u k U
  have A3 := Lib.hid fun p u k U => at3 p u k U
  have A4 := Lib.hid fun p u k U => at4 p u k U
  have A5 := Lib.hid fun p u k U => at5 p u k U
  unfold fv at A0 A1 A2 A3 A4 A5
  obtain ⟨N, hN⟩ : ∃ N, w.heap.size = N := ⟨_, rfl⟩
  have I0 : Hid (Mk w N 0 w) := Lib.hid ⟨by rw [hN]; rfl, hN ▸ Below.refl _ w, fun j hj => absurd hj (Nat.not_lt_zero j), fun j hj => absurd hj (Nat.not_lt_zero j)⟩
  have HN := Lib.hid hN
  clear hN
  go_enter Tryz.func14, Tryz.ntmps14
  go_wp2_with fail
  refine (A0.out _ _ _ _).mono ?_; rintro e v0 ⟨rfl, q, hs, b⟩
  have S := I0.out.step q hs b
  have Z := Lib.hid S.1
  have zz := Lib.hid (I0.out.size)
  have zy := hs
  obtain ⟨g0, hg0⟩ : ∃ g, v0.heap.size = g := ⟨_, rfl⟩
  have G0 : Hid (g0 = N + 4) := Lib.hid (by have := zz.out; omega)
  obtain ⟨w1, hw1⟩ : ∃ W, (v0.alloc (.cells #[.nilFunc, .nilFunc, .nilFunc] 57)).setRow v0.heap.size (EPa.cells (ptI 0 w.heap.size)).toArray = W := ⟨_, rfl⟩
  have I1 := Lib.hid S.2
  rw [hw1] at I1
  have HW := Lib.hid hw1
  have HG := Lib.hid hg0
  have zw : Hid (w.heap.size = N + 0) := Lib.hid zz.out
  clear q hs b S I0 hw1 hg0 zy zz
  go_wp2_with (refine rwl_store TPr (ptI 0 w.heap.size) v0.heap.size Z.out rfl rfl ?_; rw [HW.out, HG.out]; clear HW HG Z zw)
  refine (A0.out _ _ _ _).mono ?_; rintro e v1 ⟨rfl, q, hs, b⟩
  have S := I1.out.step q hs b
  have Z := Lib.hid S.1
  have zz := Lib.hid (I1.out.size)
  have zy := hs
  obtain ⟨g1, hg1⟩ : ∃ g, v1.heap.size = g := ⟨_, rfl⟩
  have G1 : Hid (g1 = N + 9) := Lib.hid (by have := zz.out; omega)
  obtain ⟨w2, hw2⟩ : ∃ W, (v1.alloc (.cells #[.nilFunc, .nilFunc, .nilFunc] 57)).setRow v1.heap.size (EPa.cells (ptI 1 w1.heap.size)).toArray = W := ⟨_, rfl⟩
  have I2 := Lib.hid S.2
  rw [hw2] at I2
  have HW := Lib.hid hw2
  have HG := Lib.hid hg1
  have zw : Hid (w1.heap.size = N + 5) := Lib.hid zz.out
  clear q hs b S I1 hw2 hg1 zy zz
  go_wp2_with (refine rwl_store TPr (ptI 1 w1.heap.size) v1.heap.size Z.out rfl rfl ?_; rw [HW.out, HG.out]; clear HW HG Z zw)
  refine (A1.out _ _ _ _).mono ?_; rintro e v2 ⟨rfl, q, hs, b⟩
  have S := I2.out.step q hs b
  have Z := Lib.hid S.1
  have zz := Lib.hid (I2.out.size)
  have zy := hs
  obtain ⟨g2, hg2⟩ : ∃ g, v2.heap.size = g := ⟨_, rfl⟩
  have G2 : Hid (g2 = N + 14) := Lib.hid (by have := zz.out; omega)
  obtain ⟨w3, hw3⟩ : ∃ W, (v2.alloc (.cells #[.nilFunc, .nilFunc, .nilFunc] 57)).setRow v2.heap.size (EPa.cells (ptI 2 w2.heap.size)).toArray = W := ⟨_, rfl⟩
  have I3 := Lib.hid S.2
  rw [hw3] at I3
  have HW := Lib.hid hw3
  have HG := Lib.hid hg2
  have zw : Hid (w2.heap.size = N + 10) := Lib.hid zz.out
  clear q hs b S I2 hw3 hg2 zy zz
  go_wp2_with (refine rwl_store TPr (ptI 2 w2.heap.size) v2.heap.size Z.out rfl rfl ?_; rw [HW.out, HG.out]; clear HW HG Z zw)
  refine (A2.out _ _ _ _).mono ?_; rintro e v3 ⟨rfl, q, hs, b⟩
  have S := I3.out.step q hs b
  have Z := Lib.hid S.1
  have zz := Lib.hid (I3.out.size)
  have zy := hs
  obtain ⟨g3, hg3⟩ : ∃ g, v3.heap.size = g := ⟨_, rfl⟩
  have G3 : Hid (g3 = N + 19) := Lib.hid (by have := zz.out; omega)
  obtain ⟨w4, hw4⟩ : ∃ W, (v3.alloc (.cells #[.nilFunc, .nilFunc, .nilFunc] 57)).setRow v3.heap.size (EPa.cells (ptI 3 w3.heap.size)).toArray = W := ⟨_, rfl⟩
  have I4 := Lib.hid S.2
  rw [hw4] at I4
  have HW := Lib.hid hw4
  have HG := Lib.hid hg3
  have zw : Hid (w3.heap.size = N + 15) := Lib.hid zz.out
  clear q hs b S I3 hw4 hg3 zy zz
  go_wp2_with (refine rwl_store TPr (ptI 3 w3.heap.size) v3.heap.size Z.out rfl rfl ?_; rw [HW.out, HG.out]; clear HW HG Z zw)
  refine (A3.out _ _ _ _).mono ?_; rintro e v4 ⟨rfl, q, hs, b⟩
  have S := I4.out.step q hs b
  have Z := Lib.hid S.1
  have zz := Lib.hid (I4.out.size)
  have zy := hs
  obtain ⟨g4, hg4⟩ : ∃ g, v4.heap.size = g := ⟨_, rfl⟩
  have G4 : Hid (g4 = N + 24) := Lib.hid (by have := zz.out; omega)
  obtain ⟨w5, hw5⟩ : ∃ W, (v4.alloc (.cells #[.nilFunc, .nilFunc, .nilFunc] 57)).setRow v4.heap.size (EPa.cells (ptI 4 w4.heap.size)).toArray = W := ⟨_, rfl⟩
  have I5 := Lib.hid S.2
  rw [hw5] at I5
  have HW := Lib.hid hw5
  have HG := Lib.hid hg4
  have zw : Hid (w4.heap.size = N + 20) := Lib.hid zz.out
  clear q hs b S I4 hw5 hg4 zy zz
  go_wp2_with (refine rwl_store TPr (ptI 4 w4.heap.size) v4.heap.size Z.out rfl rfl ?_; rw [HW.out, HG.out]; clear HW HG Z zw)
  refine (A4.out _ _ _ _).mono ?_; rintro e v5 ⟨rfl, q, hs, b⟩
  have S := I5.out.step q hs b
  have Z := Lib.hid S.1
  have zz := Lib.hid (I5.out.size)
  have zy := hs
  obtain ⟨g5, hg5⟩ : ∃ g, v5.heap.size = g := ⟨_, rfl⟩
  have G5 : Hid (g5 = N + 29) := Lib.hid (by have := zz.out; omega)
  obtain ⟨w6, hw6⟩ : ∃ W, (v5.alloc (.cells #[.nilFunc, .nilFunc, .nilFunc] 57)).setRow v5.heap.size (EPa.cells (ptI 5 w5.heap.size)).toArray = W := ⟨_, rfl⟩
  have I6 := Lib.hid S.2
  rw [hw6] at I6
  have HW := Lib.hid hw6
  have HG := Lib.hid hg5
  have zw : Hid (w5.heap.size = N + 25) := Lib.hid zz.out
  clear q hs b S I5 hw6 hg5 zy zz
  go_wp2_with (refine rwl_store TPr (ptI 5 w5.heap.size) v5.heap.size Z.out rfl rfl ?_; rw [HW.out, HG.out]; clear HW HG Z zw)
  refine (A4.out _ _ _ _).mono ?_; rintro e v6 ⟨rfl, q, hs, b⟩
  have S := I6.out.step q hs b
  have Z := Lib.hid S.1
  have zz := Lib.hid (I6.out.size)
  have zy := hs
  obtain ⟨g6, hg6⟩ : ∃ g, v6.heap.size = g := ⟨_, rfl⟩
  have G6 : Hid (g6 = N + 34) := Lib.hid (by have := zz.out; omega)
  obtain ⟨w7, hw7⟩ : ∃ W, (v6.alloc (.cells #[.nilFunc, .nilFunc, .nilFunc] 57)).setRow v6.heap.size (EPa.cells (ptI 6 w6.heap.size)).toArray = W := ⟨_, rfl⟩
  have I7 := Lib.hid S.2
  rw [hw7] at I7
  have HW := Lib.hid hw7
  have HG := Lib.hid hg6
  have zw : Hid (w6.heap.size = N + 30) := Lib.hid zz.out
  clear q hs b S I6 hw7 hg6 zy zz
  go_wp2_with (refine rwl_store TPr (ptI 6 w6.heap.size) v6.heap.size Z.out rfl rfl ?_; rw [HW.out, HG.out]; clear HW HG Z zw)
  refine (A5.out _ _ _ _).mono ?_; rintro e v7 ⟨rfl, q, hs, b⟩
  have S := I7.out.step q hs b
  have Z := Lib.hid S.1
  have zz := Lib.hid (I7.out.size)
  have zy := hs
  obtain ⟨g7, hg7⟩ : ∃ g, v7.heap.size = g := ⟨_, rfl⟩
  have G7 : Hid (g7 = N + 39) := Lib.hid (by have := zz.out; omega)
  obtain ⟨w8, hw8⟩ : ∃ W, (v7.alloc (.cells #[.nilFunc, .nilFunc, .nilFunc] 57)).setRow v7.heap.size (EPa.cells (ptI 7 w7.heap.size)).toArray = W := ⟨_, rfl⟩
  have I8 := Lib.hid S.2
  rw [hw8] at I8
  have HW := Lib.hid hw8
  have HG := Lib.hid hg7
  have zw : Hid (w7.heap.size = N + 35) := Lib.hid zz.out
  clear q hs b S I7 hw8 hg7 zy zz
  go_wp2_with (refine rwl_store TPr (ptI 7 w7.heap.size) v7.heap.size Z.out rfl rfl ?_; rw [HW.out, HG.out]; clear HW HG Z zw)
  refine (A2.out _ _ _ _).mono ?_; rintro e v8 ⟨rfl, q, hs, b⟩
  have S := I8.out.step q hs b
  have Z := Lib.hid S.1
  have zz := Lib.hid (I8.out.size)
  have zy := hs
  obtain ⟨g8, hg8⟩ : ∃ g, v8.heap.size = g := ⟨_, rfl⟩
  have G8 : Hid (g8 = N + 44) := Lib.hid (by have := zz.out; omega)
  obtain ⟨w9, hw9⟩ : ∃ W, (v8.alloc (.cells #[.nilFunc, .nilFunc, .nilFunc] 57)).setRow v8.heap.size (EPa.cells (ptI 8 w8.heap.size)).toArray = W := ⟨_, rfl⟩
  have I9 := Lib.hid S.2
  rw [hw9] at I9
  have HW := Lib.hid hw9
  have HG := Lib.hid hg8
  have zw : Hid (w8.heap.size = N + 40) := Lib.hid zz.out
  clear q hs b S I8 hw9 hg8 zy zz
  go_wp2_with (refine rwl_store TPr (ptI 8 w8.heap.size) v8.heap.size Z.out rfl rfl ?_; rw [HW.out, HG.out]; clear HW HG Z zw)
  refine (A2.out _ _ _ _).mono ?_; rintro e v9 ⟨rfl, q, hs, b⟩
  have S := I9.out.step q hs b
  have Z := Lib.hid S.1
  have zz := Lib.hid (I9.out.size)
  have zy := hs
  obtain ⟨g9, hg9⟩ : ∃ g, v9.heap.size = g := ⟨_, rfl⟩
  have G9 : Hid (g9 = N + 49) := Lib.hid (by have := zz.out; omega)
  obtain ⟨w10, hw10⟩ : ∃ W, (v9.alloc (.cells #[.nilFunc, .nilFunc, .nilFunc] 57)).setRow v9.heap.size (EPa.cells (ptI 9 w9.heap.size)).toArray = W := ⟨_, rfl⟩
  have I10 := Lib.hid S.2
  rw [hw10] at I10
  have HW := Lib.hid hw10
  have HG := Lib.hid hg9
  have zw : Hid (w9.heap.size = N + 45) := Lib.hid zz.out
  clear q hs b S I9 hw10 hg9 zy zz
  have X0 := Lib.hid (show EPa.Bx 57 w10 g0 (ptI 0 (N + 0)) from by rw [G0.out]; exact I10.out.box 0 (by decide))
  have X1 := Lib.hid (show EPa.Bx 57 w10 g1 (ptI 1 (N + 5)) from by rw [G1.out]; exact I10.out.box 1 (by decide))
  have X2 := Lib.hid (show EPa.Bx 57 w10 g2 (ptI 2 (N + 10)) from by rw [G2.out]; exact I10.out.box 2 (by decide))
  have X3 := Lib.hid (show EPa.Bx 57 w10 g3 (ptI 3 (N + 15)) from by rw [G3.out]; exact I10.out.box 3 (by decide))
  have X4 := Lib.hid (show EPa.Bx 57 w10 g4 (ptI 4 (N + 20)) from by rw [G4.out]; exact I10.out.box 4 (by decide))
  have X5 := Lib.hid (show EPa.Bx 57 w10 g5 (ptI 5 (N + 25)) from by rw [G5.out]; exact I10.out.box 5 (by decide))
  have X6 := Lib.hid (show EPa.Bx 57 w10 g6 (ptI 6 (N + 30)) from by rw [G6.out]; exact I10.out.box 6 (by decide))
  have X7 := Lib.hid (show EPa.Bx 57 w10 g7 (ptI 7 (N + 35)) from by rw [G7.out]; exact I10.out.box 7 (by decide))
  have X8 := Lib.hid (show EPa.Bx 57 w10 g8 (ptI 8 (N + 40)) from by rw [G8.out]; exact I10.out.box 8 (by decide))
  have X9 := Lib.hid (show EPa.Bx 57 w10 g9 (ptI 9 (N + 45)) from by rw [G9.out]; exact I10.out.box 9 (by decide))
  have FIN : Hid (∀ (L : List Nat) (W : World) (A : Option Addr) (c : Nat), flds v = L → W = w10.alloc (.cells (EPa.flat (L.map fun i => ptI i (N + 5 * i))).toArray 57) → A = some ⟨w10.heap.size, 0, none⟩ → PartsOk v w (.returned (.slice A L.length c)) W) := Lib.hid (by
    rintro L W A c rfl rfl rfl
    have r := rd_new15 w10 ((flds v).map fun i => ptI i (N + 5 * i))
    have q := below_new w10 (.cells (EPa.flat ((flds v).map fun i => ptI i (N + 5 * i))).toArray 57)
    have sz := I10.out.size
    have sq := q.size
    unfold PartsOk
    rw [HN.out]
    refine ⟨_, c, rfl, by rw [List.length_map] at r; exact r, fun i hi => (I10.out.bxs i hi).below q (by omega), (fun a e => by cases e; show N ≤ w10.heap.size; omega), I10.out.bel.trans (q.mono (by omega)), by omega⟩)
  have NON : Hid (flds v = [] → PartsOk v w (.returned (.slice none 0 0)) w10) := Lib.hid (by
    intro e
    have sz := I10.out.size
    unfold PartsOk
    rw [HN.out, e]
    exact ⟨none, 0, rfl, grd_nil _ _, I10.out.bxs, (fun a e => by cases e), I10.out.bel, by omega⟩)
  by_cases c1 : v = 1
  · subst c1
    go_wp2_with (first | (refine rwl_store TPr (ptI 9 w9.heap.size) v9.heap.size Z.out rfl rfl ?_; rw [HW.out, HG.out]) | (with_reducible refine stop_of (p := wpList _ _ _ ({ dst := some 27, op := _, type := _, pos := _, after := _, guard := _ } :: _) _ _) ?_))
    refine stop_end ?_
    refine rwl_load TPr g0 0 (gbx_rng X0.out) rfl rfl ?_
    refine rwl_load TPr g3 0 (gbx_rng X3.out) rfl rfl ?_
    refine wl_bs16 [ptI 0 (N + 0), ptI 3 (N + 15)] rfl (by decide) (by decide) (by kernel_rfl) ?_
    go_wp2_with fail
    go_ret
    exact FIN.out [0, 3] _ _ _ (by decide) rfl rfl
  have d1 : decide (v = 1) = false := decide_eq_false c1
  have e1 : (v == 1) = false := by simpa using c1
  by_cases c2 : v = 2
  · subst c2
    go_wp2_with (first | (refine rwl_store TPr (ptI 9 w9.heap.size) v9.heap.size Z.out rfl rfl ?_; rw [HW.out, HG.out]) | (with_reducible refine stop_of (p := wpList _ _ _ ({ dst := some 27, op := _, type := _, pos := _, after := _, guard := _ } :: _) _ _) ?_))
    refine stop_end ?_
    refine rwl_load TPr g0 0 (gbx_rng X0.out) rfl rfl ?_
    refine rwl_load TPr g3 0 (gbx_rng X3.out) rfl rfl ?_
    refine wl_bs16 [ptI 0 (N + 0), ptI 3 (N + 15)] rfl (by decide) (by decide) (by kernel_rfl) ?_
    go_wp2_with fail
    go_ret
    exact FIN.out [0, 3] _ _ _ (by decide) rfl rfl
  have d2 : decide (v = 2) = false := decide_eq_false c2
  have e2 : (v == 2) = false := by simpa using c2
  by_cases c3 : v = 3
  · subst c3
    go_wp2_with (first | (refine rwl_store TPr (ptI 9 w9.heap.size) v9.heap.size Z.out rfl rfl ?_; rw [HW.out, HG.out]) | (with_reducible refine stop_of (p := wpList _ _ _ ({ dst := some 32, op := _, type := _, pos := _, after := _, guard := _ } :: _) _ _) ?_))
    refine stop_end ?_
    refine rwl_load TPr g4 0 (gbx_rng X4.out) rfl rfl ?_
    refine wl_bs16 [ptI 4 (N + 20)] rfl (by decide) (by decide) (by kernel_rfl) ?_
    go_wp2_with fail
    go_ret
    exact FIN.out [4] _ _ _ (by decide) rfl rfl
  have d3 : decide (v = 3) = false := decide_eq_false c3
  have e3 : (v == 3) = false := by simpa using c3
  by_cases c4 : v = 4
  · subst c4
    go_wp2_with (first | (refine rwl_store TPr (ptI 9 w9.heap.size) v9.heap.size Z.out rfl rfl ?_; rw [HW.out, HG.out]) | (with_reducible refine stop_of (p := wpList _ _ _ ({ dst := some 36, op := _, type := _, pos := _, after := _, guard := _ } :: _) _ _) ?_))
    refine stop_end ?_
    refine rwl_load TPr g1 0 (gbx_rng X1.out) rfl rfl ?_
    refine rwl_load TPr g5 0 (gbx_rng X5.out) rfl rfl ?_
    refine wl_bs16 [ptI 1 (N + 5), ptI 5 (N + 25)] rfl (by decide) (by decide) (by kernel_rfl) ?_
    go_wp2_with fail
    go_ret
    exact FIN.out [1, 5] _ _ _ (by decide) rfl rfl
  have d4 : decide (v = 4) = false := decide_eq_false c4
  have e4 : (v == 4) = false := by simpa using c4
  by_cases c5 : v = 5
  · subst c5
    go_wp2_with (first | (refine rwl_store TPr (ptI 9 w9.heap.size) v9.heap.size Z.out rfl rfl ?_; rw [HW.out, HG.out]) | (with_reducible refine stop_of (p := wpList _ _ _ ({ dst := some 41, op := _, type := _, pos := _, after := _, guard := _ } :: _) _ _) ?_))
    refine stop_end ?_
    refine rwl_load TPr g0 0 (gbx_rng X0.out) rfl rfl ?_
    refine rwl_load TPr g1 0 (gbx_rng X1.out) rfl rfl ?_
    refine rwl_load TPr g6 0 (gbx_rng X6.out) rfl rfl ?_
    refine rwl_load TPr g7 0 (gbx_rng X7.out) rfl rfl ?_
    refine rwl_load TPr g8 0 (gbx_rng X8.out) rfl rfl ?_
    refine rwl_load TPr g9 0 (gbx_rng X9.out) rfl rfl ?_
    refine wl_bs16 [ptI 0 (N + 0), ptI 1 (N + 5), ptI 6 (N + 30), ptI 7 (N + 35), ptI 8 (N + 40), ptI 9 (N + 45)] rfl (by decide) (by decide) (by kernel_rfl) ?_
    go_wp2_with fail
    go_ret
    exact FIN.out [0, 1, 6, 7, 8, 9] _ _ _ (by decide) rfl rfl
  have d5 : decide (v = 5) = false := decide_eq_false c5
  have e5 : (v == 5) = false := by simpa using c5
  by_cases c6 : v = 6
  · subst c6
    go_wp2_with (first | (refine rwl_store TPr (ptI 9 w9.heap.size) v9.heap.size Z.out rfl rfl ?_; rw [HW.out, HG.out]) | (with_reducible refine stop_of (p := wpList _ _ _ ({ dst := some 50, op := _, type := _, pos := _, after := _, guard := _ } :: _) _ _) ?_))
    refine stop_end ?_
    refine rwl_load TPr g0 0 (gbx_rng X0.out) rfl rfl ?_
    refine rwl_load TPr g2 0 (gbx_rng X2.out) rfl rfl ?_
    refine wl_bs16 [ptI 0 (N + 0), ptI 2 (N + 10)] rfl (by decide) (by decide) (by kernel_rfl) ?_
    go_wp2_with fail
    go_ret
    exact FIN.out [0, 2] _ _ _ (by decide) rfl rfl
  have d6 : decide (v = 6) = false := decide_eq_false c6
  have e6 : (v == 6) = false := by simpa using c6
  by_cases c7 : v = 7
  · subst c7
    go_wp2_with (first | (refine rwl_store TPr (ptI 9 w9.heap.size) v9.heap.size Z.out rfl rfl ?_; rw [HW.out, HG.out]) | (with_reducible refine stop_of (p := wpList _ _ _ ({ dst := some 55, op := _, type := _, pos := _, after := _, guard := _ } :: _) _ _) ?_))
    refine stop_end ?_
    refine rwl_load TPr g0 0 (gbx_rng X0.out) rfl rfl ?_
    refine rwl_load TPr g2 0 (gbx_rng X2.out) rfl rfl ?_
    refine rwl_load TPr g8 0 (gbx_rng X8.out) rfl rfl ?_
    refine rwl_load TPr g9 0 (gbx_rng X9.out) rfl rfl ?_
    refine wl_bs16 [ptI 0 (N + 0), ptI 2 (N + 10), ptI 8 (N + 40), ptI 9 (N + 45)] rfl (by decide) (by decide) (by kernel_rfl) ?_
    go_wp2_with fail
    go_ret
    exact FIN.out [0, 2, 8, 9] _ _ _ (by decide) rfl rfl
  have d7 : decide (v = 7) = false := decide_eq_false c7
  have e7 : (v == 7) = false := by simpa using c7
  by_cases c8 : v = 8
  · subst c8
    go_wp2_with (first | (refine rwl_store TPr (ptI 9 w9.heap.size) v9.heap.size Z.out rfl rfl ?_; rw [HW.out, HG.out]) | (with_reducible refine stop_of (p := wpList _ _ _ ({ dst := some 62, op := _, type := _, pos := _, after := _, guard := _ } :: _) _ _) ?_))
    refine stop_end ?_
    refine rwl_load TPr g0 0 (gbx_rng X0.out) rfl rfl ?_
    refine rwl_load TPr g1 0 (gbx_rng X1.out) rfl rfl ?_
    refine wl_bs16 [ptI 0 (N + 0), ptI 1 (N + 5)] rfl (by decide) (by decide) (by kernel_rfl) ?_
    go_wp2_with fail
    go_ret
    exact FIN.out [0, 1] _ _ _ (by decide) rfl rfl
  have d8 : decide (v = 8) = false := decide_eq_false c8
  have e8 : (v == 8) = false := by simpa using c8
  by_cases c9 : v = 9
  · subst c9
    go_wp2_with (first | (refine rwl_store TPr (ptI 9 w9.heap.size) v9.heap.size Z.out rfl rfl ?_; rw [HW.out, HG.out]) | (with_reducible refine stop_of (p := wpList _ _ _ ({ dst := some 67, op := _, type := _, pos := _, after := _, guard := _ } :: _) _ _) ?_))
    refine stop_end ?_
    refine rwl_load TPr g0 0 (gbx_rng X0.out) rfl rfl ?_
    refine rwl_load TPr g1 0 (gbx_rng X1.out) rfl rfl ?_
    refine rwl_load TPr g6 0 (gbx_rng X6.out) rfl rfl ?_
    refine rwl_load TPr g8 0 (gbx_rng X8.out) rfl rfl ?_
    refine rwl_load TPr g9 0 (gbx_rng X9.out) rfl rfl ?_
    refine wl_bs16 [ptI 0 (N + 0), ptI 1 (N + 5), ptI 6 (N + 30), ptI 8 (N + 40), ptI 9 (N + 45)] rfl (by decide) (by decide) (by kernel_rfl) ?_
    go_wp2_with fail
    go_ret
    exact FIN.out [0, 1, 6, 8, 9] _ _ _ (by decide) rfl rfl
  have d9 : decide (v = 9) = false := decide_eq_false c9
  have e9 : (v == 9) = false := by simpa using c9
  by_cases c10 : v = 10
  · subst c10
    go_wp2_with (first | (refine rwl_store TPr (ptI 9 w9.heap.size) v9.heap.size Z.out rfl rfl ?_; rw [HW.out, HG.out]) | (with_reducible refine stop_of (p := wpList _ _ _ ({ dst := some 75, op := _, type := _, pos := _, after := _, guard := _ } :: _) _ _) ?_))
    refine stop_end ?_
    refine rwl_load TPr g0 0 (gbx_rng X0.out) rfl rfl ?_
    refine rwl_load TPr g5 0 (gbx_rng X5.out) rfl rfl ?_
    refine wl_bs16 [ptI 0 (N + 0), ptI 5 (N + 25)] rfl (by decide) (by decide) (by kernel_rfl) ?_
    go_wp2_with fail
    go_ret
    exact FIN.out [0, 5] _ _ _ (by decide) rfl rfl
  have d10 : decide (v = 10) = false := decide_eq_false c10
  have e10 : (v == 10) = false := by simpa using c10
  by_cases c11 : v = 11
  · subst c11
    go_wp2_with (first | (refine rwl_store TPr (ptI 9 w9.heap.size) v9.heap.size Z.out rfl rfl ?_; rw [HW.out, HG.out]) | (with_reducible refine stop_of (p := wpList _ _ _ ({ dst := some 80, op := _, type := _, pos := _, after := _, guard := _ } :: _) _ _) ?_))
    refine stop_end ?_
    refine rwl_load TPr g1 0 (gbx_rng X1.out) rfl rfl ?_
    refine rwl_load TPr g8 0 (gbx_rng X8.out) rfl rfl ?_
    refine wl_bs16 [ptI 1 (N + 5), ptI 8 (N + 40)] rfl (by decide) (by decide) (by kernel_rfl) ?_
    go_wp2_with fail
    go_ret
    exact FIN.out [1, 8] _ _ _ (by decide) rfl rfl
  have d11 : decide (v = 11) = false := decide_eq_false c11
  have e11 : (v == 11) = false := by simpa using c11
  by_cases c13 : v = 13
  · subst c13
    go_wp2_with (first | (refine rwl_store TPr (ptI 9 w9.heap.size) v9.heap.size Z.out rfl rfl ?_; rw [HW.out, HG.out]) | (with_reducible refine stop_of (p := wpList _ _ _ ({ dst := some 85, op := _, type := _, pos := _, after := _, guard := _ } :: _) _ _) ?_))
    refine stop_end ?_
    refine rwl_load TPr g0 0 (gbx_rng X0.out) rfl rfl ?_
    refine wl_bs16 [ptI 0 (N + 0)] rfl (by decide) (by decide) (by kernel_rfl) ?_
    go_wp2_with fail
    go_ret
    exact FIN.out [0] _ _ _ (by decide) rfl rfl
  have d13 : decide (v = 13) = false := decide_eq_false c13
  have e13 : (v == 13) = false := by simpa using c13
  by_cases c14 : v = 14
  · subst c14
    go_wp2_with (first | (refine rwl_store TPr (ptI 9 w9.heap.size) v9.heap.size Z.out rfl rfl ?_; rw [HW.out, HG.out]) | (with_reducible refine stop_of (p := wpList _ _ _ ({ dst := some 89, op := _, type := _, pos := _, after := _, guard := _ } :: _) _ _) ?_))
    refine stop_end ?_
    refine rwl_load TPr g1 0 (gbx_rng X1.out) rfl rfl ?_
    refine wl_bs16 [ptI 1 (N + 5)] rfl (by decide) (by decide) (by kernel_rfl) ?_
    go_wp2_with fail
    go_ret
    exact FIN.out [1] _ _ _ (by decide) rfl rfl
  have d14 : decide (v = 14) = false := decide_eq_false c14
  have e14 : (v == 14) = false := by simpa using c14
  have EM : Hid (flds v = []) := Lib.hid (by unfold flds; rw [if_neg c1, if_neg c2, if_neg c3, if_neg c4, if_neg c5, if_neg c6, if_neg c7, if_neg c8, if_neg c9, if_neg c10, if_neg c11, if_neg c13, if_neg c14])
  clear c1 c2 c3 c4 c5 c6 c7 c8 c9 c10 c11 c13 c14
  go_wp2_with (refine rwl_store TPr (ptI 9 w9.heap.size) v9.heap.size Z.out rfl rfl ?_; rw [HW.out, HG.out])
  go_ret
  exact NON.out EM.out
end Go.Proofs.YtbmlpokkojhhjaaGreat.Wz
