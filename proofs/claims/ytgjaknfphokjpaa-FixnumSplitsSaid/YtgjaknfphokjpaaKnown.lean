/- Contract of the statements' own check 'known': it returns true, whatever the memory. -/
import Derived.Test.YtgjaknfphokjpaaMul
import Derived.RowKit3
namespace Go.Proofs.Ytgjaknfphokjpaa
open Go.RowKit

theorem known_add (w : World) : Calls Try.prog 13 #[.int .i64 4611686018427387904, .int .i64 4611686018427387904] w fun e w' => e = .returned (.tuple #[.int .i64 0, .int .i64 6]) ∧ w.alloc (.cells #[.int .i64 4611686018427387904, .int .i64 4611686018427387904] 2) = w' := by
  refine (add_any 4611686018427387904 4611686018427387904 (by unfold I64; decide) (by unfold I64; decide) w).mono ?_
  rintro e w' ⟨rfl, rfl⟩
  exact ⟨ret2 (tN_out (by unfold I64; decide)) (tE_out (by unfold I64; decide)), rfl⟩
theorem known_div (w : World) : Calls Try.prog 24 #[.int .i64 (-7), .int .i64 1, .int .i64 2] w fun e w' => e = .returned (.tuple #[.int .i64 (-4), .int .i64 0]) ∧ ∃ n, w.drewN n = w' := by
  refine (muldiv_any (-7) 1 2 (by unfold I64; decide) (by unfold I64; decide) (by unfold I64; decide) (by decide) w).mono ?_
  rintro e w' ⟨rfl, h⟩
  have e1 : fl (-7 * 1) 2 = -4 := by decide
  rw [e1]
  exact ⟨ret2 (tN_in (by unfold I64; decide)) (tE_in (by unfold I64; decide)), h⟩
theorem grown_drewN {w w' : World} (h : Grown w w') (n : Nat) : Grown w (w'.drewN n) := by
  induction n generalizing w' with
  | zero => exact h
  | succ n ih => exact ih h.drew
theorem grown_trans {a b c : World} (h : Grown a b) (k : Grown b c) : Grown a c :=
  ⟨World.keptBut_trans h.1 k.1, fun x => (k.2.1 x).trans (h.2.1 x), Nat.le_trans h.2.2 k.2.2⟩
theorem below_drewN {B : Nat} {a w : World} (h : Below B a w) (n : Nat) : Below B a (w.drewN n) := ⟨h.os, h.tape, h.output, h.size, h.block⟩
/-- Only new blocks, and draws: what a call without side effects leaves. -/
def Quiet (w w' : World) : Prop := Grown w w' ∧ Below w.heap.size w w'
theorem Quiet.refl (w : World) : Quiet w w := ⟨Grown.refl _, Below.refl _ _⟩
theorem Quiet.trans {a b c : World} (h : Quiet a b) (k : Quiet b c) : Quiet a c := ⟨grown_trans h.1 k.1, h.2.trans (k.2.mono h.1.2.2)⟩
theorem Quiet.drewN {a b : World} (h : Quiet a b) (n : Nat) : Quiet a (b.drewN n) := ⟨grown_drewN h.1 n, below_drewN h.2 n⟩
theorem Quiet.drew {a b : World} (h : Quiet a b) : Quiet a b.drew := ⟨h.1.drew, h.2.drew⟩
theorem Quiet.alloc {a b : World} (h : Quiet a b) (c : Array Value) (t : TypeId) : Quiet a (b.alloc (.cells c t)) := ⟨h.1.alloc c t, h.2.alloc h.1.2.2 _⟩
set_option maxHeartbeats 400000 in
theorem known_any (w : World) : Calls Try.prog 19 #[] w fun e w' => e = .returned (.bool true) ∧ Quiet w w' := by
  go_enter Try.func19, Try.ntmps19
  go_wp2_with fail
  refine (known_add _).mono ?_; rintro e w1 ⟨rfl, rfl⟩
  go_wp2_with fail
  refine (known_div _).mono ?_; rintro e w' ⟨rfl, n, rfl⟩
  go_wp2_with fail
  go_ret
  exact ⟨rfl, ((Quiet.refl w).alloc _ _).drewN n⟩
end Go.Proofs.Ytgjaknfphokjpaa
