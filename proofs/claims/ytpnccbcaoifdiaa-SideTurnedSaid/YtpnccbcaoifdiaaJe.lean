/- The program's side: the small calls: whether it is there, what is within bounds, what is better, ahead; the closures; find, place, first, behind, at. -/
import Derived.Test.YtpnccbcaoifdiaaJb
namespace Go.Proofs.Ytpnccbcaoifdiaa
open Go.RowKit Go.Shelf
set_option linter.unusedVariables false

section
set_option maxRecDepth 100000
theorem smiss_nil (w : World) : Calls Try.prog 31 #[.pointer none] w fun e w' => e = .returned (.bool true) ∧ w = w' := by
  go_enter Try.func31, Try.ntmps31
  go_wp2
  go_ret
  exact ⟨rfl, rfl⟩
theorem smiss_zero {w : World} {g : Nat} (h : w.cell? ⟨g, 0, none⟩ = some (.bool false)) : Calls Try.prog 31 #[.pointer (some ⟨g, 0, none⟩)] w fun e w' => e = .returned (.bool true) ∧ w = w' := by
  go_enter Try.func31, Try.ntmps31
  go_wp2
  go_ret
  exact ⟨rfl, rfl⟩
theorem smiss_no {w : World} {g : Nat} (h : w.cell? ⟨g, 0, none⟩ = some (.bool true)) : Calls Try.prog 31 #[.pointer (some ⟨g, 0, none⟩)] w fun e w' => e = .returned (.bool false) ∧ w = w' := by
  go_enter Try.func31, Try.ntmps31
  go_wp2
  go_ret
  exact ⟨rfl, rfl⟩
def witB (n m : Int) : Bool := decide (1 ≤ n) && decide (n ≤ m)
theorem wit_any (n m : Int) (w : World) : Calls Try.prog 30 #[.int .i64 n, .int .i64 m] w fun e w' => e = .returned (.bool (witB n m)) ∧ w = w' := by
  unfold witB
  cases h : decide (1 ≤ n)
  · have h' : Hid (decide (1 ≤ n) = false) := Lib.hid h
    go_enter Try.func30, Try.ntmps30
    go_wp2
    go_ret
    exact ⟨rfl, rfl⟩
  · have h' : Hid (decide (1 ≤ n) = true) := Lib.hid h
    go_enter Try.func30, Try.ntmps30
    go_wp2
    go_ret
    exact ⟨by simp, rfl⟩
theorem bet_any (buy : Bool) (g : Nat) (a b : Int) (w : World) (h : w.cell? ⟨g, 1, none⟩ = some (.bool buy)) : Calls Try.prog 41 #[.pointer (some ⟨g, 0, none⟩), .int .i64 a, .int .i64 b] w fun e w' => e = .returned (.bool (btr buy a b)) ∧ w = w' := by
  cases buy
  · go_enter Try.func41, Try.ntmps41
    go_wp2
    go_ret
    exact ⟨by simp [btr], rfl⟩
  · go_enter Try.func41, Try.ntmps41
    go_wp2
    go_ret
    exact ⟨by simp [btr], rfl⟩
end
/-- A struct boxed: its cells. -/
theorem st_bx (w : World) (x : St) (j : Nat) (hj : j < 6) : (w.alloc (.cells (ESt.cells x).toArray 66)).cell? ⟨w.heap.size, j, none⟩ = (ESt.cells x)[j]? := gbx_cell (gbx_new (E := ESt) w x) j
theorem or_bx (w : World) (x : Or) (j : Nat) : (w.alloc (.cells (EO.cells x).toArray 33)).cell? ⟨w.heap.size, j, none⟩ = (EO.cells x)[j]? := gbx_cell (gbx_new (E := EO) w x) j
set_option maxRecDepth 100000 in
set_option maxHeartbeats 1000000 in
theorem smay_any (o : Or) (w : World) (ok : o.ok) : Calls Try.prog 10 #[.agg (EO.cells o).toArray] w fun e w' => e = .returned (.bool (mayO o)) ∧ Below w.heap.size w w' := by
  have k0 := or_bx w o 0
  have k1 := or_bx w o 1
  have k3 := or_bx w o 3
  have k4 := or_bx w o 4
  simp only [EO, Or.cells, List.getElem?_cons_zero, List.getElem?_cons_succ] at k0 k1 k3 k4
  have B := Lib.hid (below_new w (.cells (EO.cells o).toArray 33))
  have W1 := Lib.hid fun W => wit_any o.pr 10000000 W
  have W2 := Lib.hid fun W => wit_any o.le 1000000 W
  have E : Hid (mayO o = (((o.nu != 0) && (o.ac != 0)) && witB o.pr 10000000 && witB o.le 1000000)) := Lib.hid (by
    have h1 : decide (0 < o.nu) = (o.nu != 0) := by
      have := ok.nu
      by_cases c : o.nu = 0
      · simp [c]
      · rw [decide_eq_true (by omega)]; simp [c]
    have h2 : decide (0 < o.ac) = (o.ac != 0) := by
      have := ok.ac
      by_cases c : o.ac = 0
      · simp [c]
      · rw [decide_eq_true (by omega)]; simp [c]
    unfold mayO witB
    rw [h1, h2, show decide (0 < o.pr) = decide (1 ≤ o.pr) from decide_eq_decide.2 (by omega), show decide (0 < o.le) = decide (1 ≤ o.le) from decide_eq_decide.2 (by omega)]
    simp only [Bool.and_assoc])
  rw [E.out]
  clear ok E
  show Calls Try.prog 10 #[.agg (Or.cells o).toArray] w _
  unfold Or.cells
  change Hid (Below w.heap.size w (w.alloc (.cells [.int .u64 o.nu, .int .u32 o.ac, .bool o.bu, .int .i64 o.pr, .int .i64 o.le].toArray 33))) at B
  obtain ⟨nu, ac, bu, pr, le⟩ := o
  dsimp only at *
  generalize witB pr 10000000 = p1 at *
  generalize witB le 1000000 = p2 at *
  cases c1 : (nu != 0)
  · go_enter Try.func10, Try.ntmps10
    go_wp2_with fail
    go_ret
    exact ⟨by simp, B.out⟩
  · cases c2 : (ac != 0)
    · go_enter Try.func10, Try.ntmps10
      go_wp2_with fail
      go_ret
      exact ⟨by simp, B.out⟩
    · cases p1
      · go_enter Try.func10, Try.ntmps10
        go_wp2_with fail
        refine (W1.out _).mono ?_; rintro e w2 ⟨rfl, rfl⟩
        go_wp2_with fail
        go_ret
        exact ⟨by simp, B.out⟩
      · go_enter Try.func10, Try.ntmps10
        go_wp2_with fail
        refine (W1.out _).mono ?_; rintro e w2 ⟨rfl, rfl⟩
        go_wp2_with fail
        refine (W2.out _).mono ?_; rintro e w2 ⟨rfl, rfl⟩
        go_wp2_with fail
        go_ret
        exact ⟨by simp, B.out⟩
set_option maxRecDepth 100000 in
set_option maxHeartbeats 1000000 in
theorem ahead_any (buy : Bool) (g : Nat) (a b : St) (w : World) (h : w.cell? ⟨g, 1, none⟩ = some (.bool buy)) : Calls Try.prog 54 #[.pointer (some ⟨g, 0, none⟩), .agg (ESt.cells a).toArray, .agg (ESt.cells b).toArray] w fun e w' => e = .returned (.bool (ahB buy a b)) ∧ Below w.heap.size w w' := by
  obtain ⟨w1, hw1⟩ : ∃ w1, w.alloc (.cells (ESt.cells a).toArray 66) = w1 := ⟨_, rfl⟩
  obtain ⟨w2, hw2⟩ : ∃ w2, w1.alloc (.cells (ESt.cells b).toArray 66) = w2 := ⟨_, rfl⟩
  have b1 : Below w.heap.size w w1 := hw1 ▸ below_new w _
  have b2 : Below w1.heap.size w1 w2 := hw2 ▸ below_new w1 _
  have s1 : w1.heap.size = w.heap.size + 1 := by rw [← hw1]; simp
  have x1 : ESt.Bx 66 w2 w.heap.size a := gbx_below (hw1 ▸ gbx_new w a) b2
  have x2 : ESt.Bx 66 w2 (w.heap.size + 1) b := by rw [← s1]; exact hw2 ▸ gbx_new w1 b
  have p1 : w2.cell? ⟨w.heap.size, 3, none⟩ = some (.int .i64 a.o.pr) := gbx_cell x1 3
  have q1 : w2.cell? ⟨w.heap.size, 5, none⟩ = some (.int .u64 a.cm) := gbx_cell x1 5
  have p2 : w2.cell? ⟨w.heap.size + 1, 3, none⟩ = some (.int .i64 b.o.pr) := gbx_cell x2 3
  have q2 : w2.cell? ⟨w.heap.size + 1, 5, none⟩ = some (.int .u64 b.cm) := gbx_cell x2 5
  have B := Lib.hid (b1.trans (b2.mono b1.size))
  have C := bet_any buy g a.o.pr b.o.pr w2 (cell_below (cell_below h b1 (Nat.le_refl _)) b2 (Nat.le_refl _))
  have HW1 := Lib.hid hw1
  have HW2 := Lib.hid hw2
  have S1 := Lib.hid s1
  unfold ahB
  clear h hw1 hw2 b1 b2 x1 x2 s1
  by_cases e : a.o.pr = b.o.pr
  · rw [if_pos e]
    have hd : (a.o.pr == b.o.pr) = true := beq_iff_eq.2 e
    clear e
    go_enter Try.func54, Try.ntmps54
    go_wp2_with (simp only [HW1.out, HW2.out, S1.out])
    go_ret
    exact ⟨rfl, B.out⟩
  · rw [if_neg e]
    have hd : (a.o.pr == b.o.pr) = false := beq_eq_false_iff_ne.2 e
    clear e
    go_enter Try.func54, Try.ntmps54
    go_wp2_with (simp only [HW1.out, HW2.out, S1.out])
    refine C.mono ?_; rintro e w3 ⟨rfl, rfl⟩
    go_wp2_with fail
    go_ret
    exact ⟨rfl, B.out⟩
end Go.Proofs.Ytpnccbcaoifdiaa
