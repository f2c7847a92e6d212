/- The program side: whether an order may be. -/
import Derived.Test.YtcpcnjiphiokjaaSb
namespace Go.Proofs.Ytcpcnjiphiokjaa
open Go.RowKit

section
def wit8B (n m : Int) : Bool := decide (1 ≤ n) && decide (n ≤ m)
end
section
theorem wit8_any (n m : Int) (w : World) : Calls Try.prog 56 #[.int .i64 n, .int .i64 m] w fun e w' => e = .returned (.bool (wit8B n m)) ∧ w = w' := by
  unfold wit8B
  cases h : decide (1 ≤ n)
  · have h' : Hid (decide (1 ≤ n) = false) := Lib.hid h
    go_enter Try.func56, Try.ntmps56
    go_wp2
    go_ret
    exact ⟨rfl, rfl⟩
  · have h' : Hid (decide (1 ≤ n) = true) := Lib.hid h
    go_enter Try.func56, Try.ntmps56
    go_wp2
    go_ret
    exact ⟨by simp, rfl⟩
end
theorem or_bx8 (w : World) (x : Or) (j : Nat) : (w.alloc (.cells (EO.cells x).toArray 41)).cell? ⟨w.heap.size, j, none⟩ = (EO.cells x)[j]? := gbx_cell (gbx_new (E := EO) w x) j
set_option maxRecDepth 100000 in
set_option maxHeartbeats 1000000 in
theorem smay8_any (o : Or) (w : World) (ok : o.ok) : Calls Try.prog 33 #[.agg (EO.cells o).toArray] w fun e w' => e = .returned (.bool (mayO o)) ∧ Below w.heap.size w w' := by
  have k0 := or_bx8 w o 0
  have k1 := or_bx8 w o 1
  have k3 := or_bx8 w o 3
  have k4 := or_bx8 w o 4
  simp only [EO, Or.cells, List.getElem?_cons_zero, List.getElem?_cons_succ] at k0 k1 k3 k4
  have B := Lib.hid (below_new w (.cells (EO.cells o).toArray 41))
  have W1 := Lib.hid fun W => wit8_any o.pr 10000000 W
  have W2 := Lib.hid fun W => wit8_any o.le 1000000 W
  have E : Hid (mayO o = (((o.nu != 0) && (o.ac != 0)) && wit8B o.pr 10000000 && wit8B o.le 1000000)) := Lib.hid (by
    have h1 : decide (0 < o.nu) = (o.nu != 0) := by
      have := ok.nu
      by_cases c : o.nu = 0
      · simp [c]
      · rw [decide_eq_true (by omega)]; simp [c]
    have h2 : decide (0 < o.ac) = (o.ac != 0) := by
      have := ok.ac
      by_cases c : o.ac = 0
      · simp [c]
      · rw [decide_eq_true (by omega)]; simp [c]
    unfold mayO wit8B
    rw [h1, h2, show decide (0 < o.pr) = decide (1 ≤ o.pr) from decide_eq_decide.2 (by omega), show decide (0 < o.le) = decide (1 ≤ o.le) from decide_eq_decide.2 (by omega)]
    simp only [Bool.and_assoc])
  rw [E.out]
  clear ok E
  show Calls Try.prog 33 #[.agg (Or.cells o).toArray] w _
  unfold Or.cells
  change Hid (Below w.heap.size w (w.alloc (.cells [.int .u64 o.nu, .int .u32 o.ac, .bool o.bu, .int .i64 o.pr, .int .i64 o.le].toArray 41))) at B
  obtain ⟨nu, ac, bu, pr, le⟩ := o
  dsimp only at *
  generalize wit8B pr 10000000 = p1 at *
  generalize wit8B le 1000000 = p2 at *
  cases c1 : (nu != 0)
  · go_enter Try.func33, Try.ntmps33
    go_wp2_with fail
    go_ret
    exact ⟨by simp, B.out⟩
  · cases c2 : (ac != 0)
    · go_enter Try.func33, Try.ntmps33
      go_wp2_with fail
      go_ret
      exact ⟨by simp, B.out⟩
    · cases p1
      · go_enter Try.func33, Try.ntmps33
        go_wp2_with fail
        refine (W1.out _).mono ?_; rintro e w2 ⟨rfl, rfl⟩
        go_wp2_with fail
        go_ret
        exact ⟨by simp, B.out⟩
      · go_enter Try.func33, Try.ntmps33
        go_wp2_with fail
        refine (W1.out _).mono ?_; rintro e w2 ⟨rfl, rfl⟩
        go_wp2_with fail
        refine (W2.out _).mono ?_; rintro e w2 ⟨rfl, rfl⟩
        go_wp2_with fail
        go_ret
        exact ⟨by simp, B.out⟩
end Go.Proofs.Ytcpcnjiphiokjaa
