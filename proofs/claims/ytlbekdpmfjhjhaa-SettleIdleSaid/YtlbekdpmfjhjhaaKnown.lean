/- Contract of the statements' own check 'known': it returns true, whatever the memory. -/
import Derived.Test.YtlbekdpmfjhjhaaMul
import Derived.RowKit3
namespace Go.Proofs.Ytlbekdpmfjhjhaa
open Go.RowKit











theorem grown_drewN {w w' : World} (h : Grown w w') (n : Nat) : Grown w (w'.drewN n) := by
  induction n generalizing w' with
  | zero => exact h
  | succ n ih => exact ih h.drew
theorem grown_trans {a b c : World} (h : Grown a b) (k : Grown b c) : Grown a c :=
  ⟨World.keptBut_trans h.1 k.1, fun x => (k.2.1 x).trans (h.2.1 x), Nat.le_trans h.2.2 k.2.2⟩
theorem below_drewN {B : Nat} {a w : World} (h : Below B a w) (n : Nat) : Below B a (w.drewN n) := ⟨h.os, h.tape, h.output, h.size, h.block⟩
/-- Only new blocks, and draws: what a call without side effects leaves. -/
def Quiet (w w' : World) : Prop := Grown w w' ∧ Below w.heap.size w w'
theorem Quiet.refl (w : World) : Quiet w w := ⟨Grown.refl _, Below.refl _ _⟩
theorem Quiet.trans {a b c : World} (h : Quiet a b) (k : Quiet b c) : Quiet a c := ⟨grown_trans h.1 k.1, h.2.trans (k.2.mono h.1.2.2)⟩
theorem Quiet.drewN {a b : World} (h : Quiet a b) (n : Nat) : Quiet a (b.drewN n) := ⟨grown_drewN h.1 n, below_drewN h.2 n⟩
theorem Quiet.drew {a b : World} (h : Quiet a b) : Quiet a b.drew := ⟨h.1.drew, h.2.drew⟩
theorem Quiet.alloc {a b : World} (h : Quiet a b) (c : Array Value) (t : TypeId) : Quiet a (b.alloc (.cells c t)) := ⟨h.1.alloc c t, h.2.alloc h.1.2.2 _⟩










end Go.Proofs.Ytlbekdpmfjhjhaa
