/- The program's ledger: Trade (by genMg.py). -/
import Derived.Test.YthnmpnepgagmmaaMf
namespace Go.Proofs.Ythnmpnepgagmmaa
open Go.RowKit Go.Shelf
set_option linter.unusedVariables false
set_option linter.unusedSimpArgs false
set_option linter.unusedSectionVars false

section
variable {L : Lg} {c b s p m : Int}
theorem traL_no {e : Int} (h : traE L c b s p m = e) (he : e ≠ 0) : traE L c b s p m = e ∧ traL L c b s p m = L := ⟨h, by unfold traL; rw [h]; exact if_neg he⟩
theorem posH_co (hl : List Po) (c a : Int) : (posH hl c a).co = c ∧ (posH hl c a).ac = a := by
  unfold posH
  cases e : MP.at hl (c, a) with
  | none => exact ⟨rfl, rfl⟩
  | some x =>
    have := (at_inv e).2
    injection this with h1 h2
    exact ⟨h1, h2⟩
theorem posH_b (h : LgI L) (c a : Int) : (-mQ ≤ (posH L.hl c a).q ∧ (posH L.hl c a).q ≤ mQ) ∧ -mF ≤ (posH L.hl c a).b ∧ (posH L.hl c a).b ≤ mF := by
  unfold posH
  cases e : MP.at L.hl (c, a) with
  | none => exact ⟨⟨by show -mQ ≤ (0 : Int); decide, by show (0 : Int) ≤ mQ; decide⟩, by show -mF ≤ (0 : Int); decide, by show (0 : Int) ≤ mF; decide⟩
  | some x => exact (h.pok x (at_inv e).1).2.1
theorem there_mem (h : LgI L) {n : Int} (hn : n ≠ 0) (ht : thereB L n = true) : ∃ a, a ∈ L.al ∧ a.nu = n := by
  unfold thereB at ht
  rcases getL_cases L n with ⟨z, _⟩ | ⟨_, _, E⟩ | ⟨a, _, _, ha, e, E⟩
  · exact absurd z hn
  · rw [E] at ht; cases ht
  · exact ⟨a, ha, e⟩
theorem mul_b {p m : Int} (hp : 1 ≤ p ∧ p ≤ 10000000) (hm : 1 ≤ m ∧ m ≤ 10000000) : 1 ≤ p * m ∧ p * m ≤ 100000000000000 := by
  constructor
  · have := Int.mul_le_mul hp.1 hm.1 (by decide) (by omega)
    simpa using this
  · have := Int.mul_le_mul hp.2 hm.2 (by omega) (by decide)
    simpa using this
end
set_option maxRecDepth 100000 in
set_option maxHeartbeats 16000000 in
theorem ltra9 {g ba bp : Nat} {L : Lg} (c b s p m : Int) (w : World) (h : Dl w g ba bp L) (hc : U32' c) (hb : U32' b) (hs : U32' s) :
    Calls Try.prog 15 #[.pointer (some ⟨g, 0, none⟩), .int .u32 c, .int .u32 b, .int .u32 s, .int .i64 p, .int .i64 m] w fun e w' => e = .returned (.int .i64 (traE L c b s p m)) ∧ AfL w g ba bp (traL L c b s p m) w' := by
  have hz := zero_po
  have HD := Lib.hid h
  have MS := Lib.hid (lmiss9 h)
  have OP := Lib.hid (lone9 p 10000000)
  have OM := Lib.hid (lone9 m 10000000)
  have ONE : Hid (∀ n, oneB n 10000000 = true → 1 ≤ n ∧ n ≤ 10000000) := Lib.hid (fun n c => by simpa [oneB] using c)
  have TH := Lib.hid fun (n : Int) (hn : U32' n) (W : World) (hd : Dl W g ba bp L) => lthere9 n W hd hn
  have PS := Lib.hid fun (n : Int) (hn : U32' n) (W : World) (hd : Dl W g ba bp L) => lpos9 c n W hd hc hn
  have HU : Hid (U32' c ∧ U32' b ∧ U32' s) := Lib.hid ⟨hc, hb, hs⟩
  have NEW := Lib.hid newP9
  have E0 : Hid (traE L c b s p m = if c = 0 ∨ b = 0 ∨ s = 0 ∨ b = s then 2 else if oneB p mQ = false ∨ oneB m mQ = false then 2 else if thereB L b = false ∨ thereB L s = false then 7 else if inB (boughtP L c b p m) = false ∨ inB (soldP L c s p m) = false then 6 else 0) := Lib.hid rfl
  clear h hc hb hs
  go_enter Try.func15, Try.ntmps15
  go_wp2_with fail
  refine MS.out.mono ?_; rintro e w2 ⟨rfl, rfl⟩
  by_cases h : c = 0
  · have E := Lib.hid (traL_no (by rw [E0.out]; exact if_pos (.inl h)) (by decide : (2 : Int) ≠ 0))
    have d : decide (c = 0) = true := decide_eq_true h
    have d2 : (c == 0) = true := by simpa using h
    clear h
    go_wp2_with fail
    go_ret
    rw [E.out.1, E.out.2]
    exact ⟨rfl, HD.out.below (Below.refl _ _), Fr.below (Below.refl _ _)⟩
  have N0 := Lib.hid h
  have d0 : decide (c = 0) = false := decide_eq_false h
  have e0 : (c == 0) = false := by simpa using h
  clear h
  by_cases h : b = 0
  · have E := Lib.hid (traL_no (by rw [E0.out]; exact if_pos (.inr (.inl h))) (by decide : (2 : Int) ≠ 0))
    have d : decide (b = 0) = true := decide_eq_true h
    have d2 : (b == 0) = true := by simpa using h
    clear h
    go_wp2_with fail
    go_ret
    rw [E.out.1, E.out.2]
    exact ⟨rfl, HD.out.below (Below.refl _ _), Fr.below (Below.refl _ _)⟩
  have N1 := Lib.hid h
  have d1 : decide (b = 0) = false := decide_eq_false h
  have e1 : (b == 0) = false := by simpa using h
  clear h
  by_cases h : s = 0
  · have E := Lib.hid (traL_no (by rw [E0.out]; exact if_pos (.inr (.inr (.inl h)))) (by decide : (2 : Int) ≠ 0))
    have d : decide (s = 0) = true := decide_eq_true h
    have d2 : (s == 0) = true := by simpa using h
    clear h
    go_wp2_with fail
    go_ret
    rw [E.out.1, E.out.2]
    exact ⟨rfl, HD.out.below (Below.refl _ _), Fr.below (Below.refl _ _)⟩
  have N2 := Lib.hid h
  have d2 : decide (s = 0) = false := decide_eq_false h
  have e2 : (s == 0) = false := by simpa using h
  clear h
  by_cases h : b = s
  · have E := Lib.hid (traL_no (by rw [E0.out]; exact if_pos (.inr (.inr (.inr h)))) (by decide : (2 : Int) ≠ 0))
    have d : decide (b = s) = true := decide_eq_true h
    have d2 : (b == s) = true := by simpa using h
    clear h
    go_wp2_with fail
    go_ret
    rw [E.out.1, E.out.2]
    exact ⟨rfl, HD.out.below (Below.refl _ _), Fr.below (Below.refl _ _)⟩
  have N3 := Lib.hid h
  have d3 : decide (b = s) = false := decide_eq_false h
  have e3 : (b == s) = false := by simpa using h
  clear h
  have H1 : Hid (¬ (c = 0 ∨ b = 0 ∨ s = 0 ∨ b = s)) := Lib.hid (fun cc => cc.elim N0.out fun cc => cc.elim N1.out fun cc => cc.elim N2.out N3.out)
  go_wp2_with fail
  refine (OP.out w).mono ?_; rintro e w2 ⟨rfl, rfl⟩
  cases ho : oneB p 10000000
  · have E := Lib.hid (traL_no (by rw [E0.out, if_neg H1.out]; exact if_pos (.inl ho)) (by decide : (2 : Int) ≠ 0))
    go_wp2_with fail
    go_ret
    rw [E.out.1, E.out.2]
    exact ⟨rfl, HD.out.below (Below.refl _ _), Fr.below (Below.refl _ _)⟩
  have hp := Lib.hid (ONE.out p ho)
  have HP := Lib.hid ho
  clear ho
  go_wp2_with fail
  refine (OM.out w).mono ?_; rintro e w2 ⟨rfl, rfl⟩
  cases ho : oneB m 10000000
  · have E := Lib.hid (traL_no (by rw [E0.out, if_neg H1.out]; exact if_pos (.inr ho)) (by decide : (2 : Int) ≠ 0))
    go_wp2_with fail
    go_ret
    rw [E.out.1, E.out.2]
    exact ⟨rfl, HD.out.below (Below.refl _ _), Fr.below (Below.refl _ _)⟩
  have hm := Lib.hid (ONE.out m ho)
  have H2 : Hid (¬ (oneB p mQ = false ∨ oneB m mQ = false)) := Lib.hid (fun cc => cc.elim (fun k => by rw [show oneB p mQ = true from HP.out] at k; cases k) (fun k => by rw [show oneB m mQ = true from ho] at k; cases k))
  clear ho
  go_wp2_with fail
  refine (TH.out b HU.out.2.1 w HD.out).mono ?_; rintro e w1 ⟨rfl, q1⟩
  have Q1 : Hid (Below w.heap.size w w1) := Lib.hid q1
  clear q1
  cases ht : thereB L b
  · have E := Lib.hid (traL_no (by rw [E0.out, if_neg H1.out, if_neg H2.out]; exact if_pos (.inl ht)) (by decide : (7 : Int) ≠ 0))
    go_wp2_with fail
    go_ret
    rw [E.out.1, E.out.2]
    exact ⟨rfl, HD.out.below Q1.out, Fr.below Q1.out⟩
  have T1 := Lib.hid ht
  clear ht
  go_wp2_with fail
  refine (TH.out s HU.out.2.2 w1 (HD.out.below Q1.out)).mono ?_; rintro e w2 ⟨rfl, q2⟩
  have Q2 : Hid (Below w.heap.size w w2) := Lib.hid (Q1.out.trans (q2.mono Q1.out.size))
  clear q2
  cases ht : thereB L s
  · have E := Lib.hid (traL_no (by rw [E0.out, if_neg H1.out, if_neg H2.out]; exact if_pos (.inr ht)) (by decide : (7 : Int) ≠ 0))
    go_wp2_with fail
    go_ret
    rw [E.out.1, E.out.2]
    exact ⟨rfl, HD.out.below Q2.out, Fr.below Q2.out⟩
  have T2 := Lib.hid ht
  have H3 : Hid (¬ (thereB L b = false ∨ thereB L s = false)) := Lib.hid (fun cc => cc.elim (fun k => by rw [T1.out] at k; cases k) (fun k => by rw [ht] at k; cases k))
  clear ht
  go_wp2_with fail
  refine (PS.out b HU.out.2.1 w2 (HD.out.below Q2.out)).mono ?_; rintro e w3 ⟨rfl, q3⟩
  have Q3 : Hid (Below w.heap.size w w3) := Lib.hid (Q2.out.trans (q3.mono Q2.out.size))
  clear q3
  go_wp2_with fail
  refine (PS.out s HU.out.2.2 w3 (HD.out.below Q3.out)).mono ?_; rintro e w4 ⟨rfl, q4⟩
  have Q4 : Hid (Below w.heap.size w w4) := Lib.hid (Q3.out.trans (q4.mono Q3.out.size))
  clear q4
  have pc1 := posH_co L.hl c b
  have pc2 := posH_co L.hl c s
  have pb1 := posH_b HD.out.inv c b
  have pb2 := posH_b HD.out.inv c s
  obtain ⟨x, hx⟩ : ∃ x, posH L.hl c b = x := ⟨_, rfl⟩
  obtain ⟨y, hy⟩ : ∃ y, posH L.hl c s = y := ⟨_, rfl⟩
  have eX : boughtP L c b p m = ⟨c, b, x.q + m, x.b + p * m⟩ := by unfold boughtP; rw [hx]
  have eY : soldP L c s p m = ⟨c, s, y.q - m, y.b - p * m⟩ := by unfold soldP; rw [hy]
  rw [hx] at pc1 pb1 ⊢
  rw [hy] at pc2 pb2 ⊢
  obtain ⟨X, hX⟩ : ∃ X, boughtP L c b p m = X := ⟨_, rfl⟩
  obtain ⟨Y, hY⟩ : ∃ Y, soldP L c s p m = Y := ⟨_, rfl⟩
  rw [hX] at eX
  rw [hY] at eY
  have hpm := mul_b hp.out hm.out
  have hmb := hm.out
  simp only [mQ, mF] at pb1 pb2
  obtain ⟨⟨a1, a2⟩, a3, a4⟩ := pb1
  obtain ⟨⟨b1, b2⟩, b3, b4⟩ := pb2
  have k1 : wrap64 (p * m) = p * m := by unfold wrap64; omega
  have k2 : wrap64 (x.q + m) = X.q := by rw [eX]; show wrap64 (x.q + m) = x.q + m; unfold wrap64; omega
  have k3 : wrap64 (x.b + p * m) = X.b := by rw [eX]; show wrap64 (x.b + p * m) = x.b + p * m; unfold wrap64; omega
  have k4 : wrap64 (y.q - m) = Y.q := by rw [eY]; show wrap64 (y.q - m) = y.q - m; unfold wrap64; omega
  have k5 : wrap64 (y.b - p * m) = Y.b := by rw [eY]; show wrap64 (y.b - p * m) = y.b - p * m; unfold wrap64; omega
  have cX : X = ⟨x.co, x.ac, X.q, X.b⟩ := by rw [eX, pc1.1, pc1.2]
  have cY : Y = ⟨y.co, y.ac, Y.q, Y.b⟩ := by rw [eY, pc2.1, pc2.2]
  have HKX : Hid (X.co = c ∧ X.ac = b ∧ Y.co = c ∧ Y.ac = s) := Lib.hid (by rw [eX, eY]; exact ⟨rfl, rfl, rfl, rfl⟩)
  have HX := Lib.hid hX
  have HY := Lib.hid hY
  obtain ⟨W5, hW5, v5, x5⟩ := NEW.out w4
  obtain ⟨W6, hW6, v6, x6⟩ := NEW.out W5
  have s5 : W5.heap.size = w4.heap.size + 1 := by rw [← hW5]; simp
  have s6 : W6.heap.size = w4.heap.size + 1 + 1 := by rw [← hW6]; simp [s5]
  have HW5 := Lib.hid hW5
  have HW6 := Lib.hid hW6
  have x56 := gbx_below x5 v6
  rw [s5] at x6
  obtain ⟨W7, hW7⟩ : ∃ W7, W6.setRow w4.heap.size (EP.cells x).toArray = W7 := ⟨_, rfl⟩
  have f7 : Fr (fun k => k = w4.heap.size) W6 W7 := by rw [← hW7]; exact fr_row (S := fun k => k = w4.heap.size) rfl _
  have x7 : EP.Bx 47 W7 w4.heap.size x := by rw [← hW7]; exact gbx_set x56
  have y7 : EP.Bx 47 W7 (w4.heap.size + 1) zeroPo := (f7.at' _ (by omega) (by omega)).trans x6
  obtain ⟨W8, hW8⟩ : ∃ W8, W7.setRow (w4.heap.size + 1) (EP.cells y).toArray = W8 := ⟨_, rfl⟩
  have f8 : Fr (fun k => k = w4.heap.size + 1) W7 W8 := by rw [← hW8]; exact fr_row (S := fun k => k = w4.heap.size + 1) rfl _
  have x8 : EP.Bx 47 W8 w4.heap.size x := (f8.at' _ (by have := f7.size; omega) (by omega)).trans x7
  have y8 : EP.Bx 47 W8 (w4.heap.size + 1) y := by rw [← hW8]; exact gbx_set y7
  have X6 := Lib.hid x56
  have Y7 := Lib.hid y7
  have HW7 := Lib.hid hW7
  have HW8 := Lib.hid hW8
  have q8 : Below w.heap.size w W8 := by
    rw [← hW8, ← hW7]
    exact below_row0 (below_row0 (Q4.out.trans ((v5.trans (v6.mono (by omega))).mono Q4.out.size)) Q4.out.size) (by have := Q4.out.size; omega)
  have GE : Hid (w.heap.size ≤ w4.heap.size) := Lib.hid Q4.out.size
  have Q8 := Lib.hid q8
  have i2 : W8.cell? ⟨w4.heap.size, 2, none⟩ = some (.int .i64 x.q) := gbx_cell x8 2
  have i3 : W8.cell? ⟨w4.heap.size, 3, none⟩ = some (.int .i64 x.b) := gbx_cell x8 3
  have j2 : W8.cell? ⟨w4.heap.size + 1, 2, none⟩ = some (.int .i64 y.q) := gbx_cell y8 2
  have j3 : W8.cell? ⟨w4.heap.size + 1, 3, none⟩ = some (.int .i64 y.b) := gbx_cell y8 3
  have fz2 : ∀ j, W8.frozen? ⟨w4.heap.size, j, none⟩ = false := fun j => gbx_fz x8 j
  have fz3 : ∀ j, W8.frozen? ⟨w4.heap.size + 1, j, none⟩ = false := fun j => gbx_fz y8 j
  obtain ⟨W9, hW9⟩ : ∃ W9, (((W8.setCell ⟨w4.heap.size, 2, none⟩ (.int .i64 X.q)).setCell ⟨w4.heap.size, 3, none⟩ (.int .i64 X.b)).setCell ⟨w4.heap.size + 1, 2, none⟩ (.int .i64 Y.q)).setCell ⟨w4.heap.size + 1, 3, none⟩ (.int .i64 Y.b) = W9 := ⟨_, rfl⟩
  have HW9 := Lib.hid hW9
  have xa : EP.Bx 47 ((W8.setCell ⟨w4.heap.size, 2, none⟩ (.int .i64 X.q)).setCell ⟨w4.heap.size, 3, none⟩ (.int .i64 X.b)) w4.heap.size X := by
    rw [cX]
    exact gbx_put (x := ⟨x.co, x.ac, X.q, x.b⟩) (i := 3) (gbx_put (x := x) (i := 2) x8 rfl) rfl
  have x9 : EP.Bx 47 W9 w4.heap.size X := by
    rw [← hW9]
    exact (heap_setCell_other _ ⟨w4.heap.size + 1, 3, none⟩ w4.heap.size _ (by show w4.heap.size ≠ w4.heap.size + 1; omega)).trans ((heap_setCell_other _ ⟨w4.heap.size + 1, 2, none⟩ w4.heap.size _ (by show w4.heap.size ≠ w4.heap.size + 1; omega)).trans xa)
  have ya : EP.Bx 47 ((W8.setCell ⟨w4.heap.size, 2, none⟩ (.int .i64 X.q)).setCell ⟨w4.heap.size, 3, none⟩ (.int .i64 X.b)) (w4.heap.size + 1) y :=
    (heap_setCell_other _ ⟨w4.heap.size, 3, none⟩ (w4.heap.size + 1) _ (by show w4.heap.size + 1 ≠ w4.heap.size; omega)).trans ((heap_setCell_other _ ⟨w4.heap.size, 2, none⟩ (w4.heap.size + 1) _ (by show w4.heap.size + 1 ≠ w4.heap.size; omega)).trans y8)
  have y9 : EP.Bx 47 W9 (w4.heap.size + 1) Y := by
    rw [← hW9, cY]
    exact gbx_put (x := ⟨y.co, y.ac, Y.q, y.b⟩) (i := 3) (gbx_put (x := y) (i := 2) ya rfl) rfl
  have q9 : Below w.heap.size w W9 := by
    rw [← hW9]
    exact (((q8.setCell GE.out _).setCell GE.out _).setCell (p := ⟨w4.heap.size + 1, 2, none⟩) (Nat.le_succ_of_le GE.out) _).setCell (p := ⟨w4.heap.size + 1, 3, none⟩) (Nat.le_succ_of_le GE.out) _
  have X9 := Lib.hid x9
  have Y9 := Lib.hid y9
  have Q9 := Lib.hid q9
  have RX := Lib.hid (gbx_rng x9)
  have IX := Lib.hid (linb9 X W9)
  have HNE : Hid (w4.heap.size + 1 = w4.heap.size ↔ False) := Lib.hid ⟨fun c => by omega, False.elim⟩
  clear eX eY pc1 pc2 hx hy hX hY a1 a2 a3 a4 b1 b2 b3 b4 hpm hmb cX cY hW5 v5 x5 hW6 v6 x6 s5 s6 x56 hW7 f7 x7 y7 hW8 f8 x8 y8 q8 hW9 xa x9 ya y9 q9
  go_wp2_with (first | (rw [HW5.out, HW6.out]; refine gwl_store TP x w4.heap.size X6.out rfl rfl ?_; rw [HW7.out]) | (refine gwl_store TP y (w4.heap.size + 1) Y7.out rfl rfl ?_; rw [HW8.out]) | (rw [HW9.out]; (with_reducible refine gwl_load TP w4.heap.size 0 RX.out ?_ ?_ ?_); rfl; rfl))
  refine IX.out.mono ?_; rintro e wa ⟨rfl, qa⟩
  have QA : Hid (Below w.heap.size w wa) := Lib.hid (Q9.out.trans (qa.mono Q9.out.size))
  have XA := Lib.hid (gbx_below X9.out qa)
  have YA := Lib.hid (gbx_below Y9.out qa)
  clear qa
  cases ht : inB X
  · have E := Lib.hid (traL_no (by rw [E0.out, if_neg H1.out, if_neg H2.out, if_neg H3.out]; exact if_pos (.inl (by rw [HX.out]; exact ht))) (by decide : (6 : Int) ≠ 0))
    go_wp2_with fail
    go_ret
    rw [E.out.1, E.out.2]
    exact ⟨rfl, HD.out.below QA.out, Fr.below QA.out⟩
  have I1 := Lib.hid ht
  have RY := Lib.hid (gbx_rng YA.out)
  have IY := Lib.hid (linb9 Y wa)
  clear ht
  go_wp2_with (first | ((with_reducible refine gwl_load TP (w4.heap.size + 1) 0 RY.out ?_ ?_ ?_); rfl; rfl))
  refine IY.out.mono ?_; rintro e wb ⟨rfl, qb⟩
  have QB : Hid (Below w.heap.size w wb) := Lib.hid (QA.out.trans (qb.mono QA.out.size))
  have XB := Lib.hid (gbx_below XA.out qb)
  have YB := Lib.hid (gbx_below YA.out qb)
  clear qb
  cases ht : inB Y
  · have E := Lib.hid (traL_no (by rw [E0.out, if_neg H1.out, if_neg H2.out, if_neg H3.out]; exact if_pos (.inr (by rw [HY.out]; exact ht))) (by decide : (6 : Int) ≠ 0))
    go_wp2_with fail
    go_ret
    rw [E.out.1, E.out.2]
    exact ⟨rfl, HD.out.below QB.out, Fr.below QB.out⟩
  have I2 := Lib.hid ht
  have e0 : traE L c b s p m = 0 := by
    rw [E0.out, if_neg H1.out, if_neg H2.out, if_neg H3.out]
    exact if_neg (fun cc => cc.elim (fun k => by rw [HX.out, I1.out] at k; cases k) (fun k => by rw [HY.out, ht] at k; cases k))
  have E : Hid (traE L c b s p m = 0 ∧ traL L c b s p m = ⟨L.fund, L.al, holdL (holdL L.hl X) Y⟩) := Lib.hid ⟨e0, by unfold traL; rw [if_pos e0, HX.out, HY.out]⟩
  have co1 : 1 ≤ c ∧ c ≤ 4294967295 := ⟨by have := HU.out.1.1; have := N0.out; omega, HU.out.1.2⟩
  have hi1 : LgI ⟨L.fund, L.al, holdL L.hl X⟩ := hold_inv HD.out.inv (by rw [HKX.out.1]; exact co1) I1.out (by rw [HKX.out.2.1]; exact there_mem HD.out.inv N1.out T1.out)
  have hi2 : LgI ⟨L.fund, L.al, holdL (holdL L.hl X) Y⟩ := hold_inv (L := ⟨L.fund, L.al, holdL L.hl X⟩) hi1 (by rw [HKX.out.2.2.1]; exact co1) ht (by rw [HKX.out.2.2.2]; exact there_mem (L := L) HD.out.inv N2.out T2.out)
  have K1 := Lib.hid (lkeep9 X wb (HD.out.below QB.out) ⟨by rw [HKX.out.1]; exact HU.out.1, by rw [HKX.out.2.1]; exact HU.out.2.1⟩ hi1)
  have K2 := Lib.hid fun (W : World) (hd : Dl W g ba bp ⟨L.fund, L.al, holdL L.hl X⟩) => lkeep9 Y W hd ⟨by rw [HKX.out.2.2.1]; exact HU.out.1, by rw [HKX.out.2.2.2]; exact HU.out.2.2⟩ hi2
  have RB := Lib.hid (gbx_rng XB.out)
  have NB : Hid (w4.heap.size + 1 ≠ bp) := Lib.hid (by have h1 := HD.out.mp.lt; have h2 := GE.out; omega)
  clear ht e0 co1 hi1 hi2
  go_wp2_with (first | ((with_reducible refine gwl_load TP w4.heap.size 0 RB.out ?_ ?_ ?_); rfl; rfl))
  refine K1.out.mono ?_; rintro e wc ⟨rfl, dc, fc⟩
  have DC := Lib.hid dc
  have FC := Lib.hid fc
  have K3 := Lib.hid (K2.out wc dc)
  have RC := Lib.hid (gbx_rng (show EP.Bx 47 wc (w4.heap.size + 1) Y from (fc.at' _ (Array.getElem?_eq_some_iff.1 YB.out).1 NB.out).trans YB.out))
  clear dc fc
  go_wp2_with (first | ((with_reducible refine gwl_load TP (w4.heap.size + 1) 0 RC.out ?_ ?_ ?_); rfl; rfl))
  refine K3.out.mono ?_; rintro e wd ⟨rfl, dd, fd⟩
  have DD := Lib.hid dd
  have FD := Lib.hid fd
  clear dd fd
  go_wp2_with fail
  go_ret
  rw [E.out.1, E.out.2]
  exact ⟨rfl, DD.out, (Fr.below QB.out).same ((FC.out.same FD.out).mono fun k hk => .inr (.inr hk))⟩
end Go.Proofs.Ythnmpnepgagmmaa
