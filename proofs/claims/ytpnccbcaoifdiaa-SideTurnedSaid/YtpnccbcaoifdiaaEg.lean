/- Orders compared, built, laid in a block, at operations that are guarded or not; no program's function. -/
import Derived.Test.YtpnccbcaoifdiaaSz
import Derived.Test.YtpnccbcaoifdiaaSa
import Derived.Test.YtpnccbcaoifdiaaSx
namespace Go.Proofs.Ytpnccbcaoifdiaa
open Go.RowKit Go.Shelf
set_option linter.unusedVariables false

section
variable {ops : Array Oper} {rest : List Oper} {a : Act} {w : World} {Q : Exit → Act → World → Prop} {d : Option Nat} {x y : Operand} {t2 ty : TypeId} {ps : String} {af : Array Edge} {gd : Option (Nat × Bool)}
theorem wl_neq_or {u v : Or} (hu : u.ok) (hv : v.ok) (hw : Region.wanted ⟨d, .binOp .neq 33 x y t2, ty, ps, af, gd⟩ (yielded ops a.tmps) = true) (hx : a.eval x = .agg (EO.cells u).toArray) (hy : a.eval y = .agg (EO.cells v).toArray)
    (h : wpList Try.prog ops Q rest (a.put d (.bool !(eqO u v))) w) : wpList Try.prog ops Q (⟨d, .binOp .neq 33 x y t2, ty, ps, af, gd⟩ :: rest) a w :=
  BigFrame.wpList_want hw fun _ hK => by
    unfold Oper.wp
    rw [exec_neq_or rfl hu hv hx hy w]
    exact hK _ _ h
theorem wl_eql_or {u v : Or} (hu : u.ok) (hv : v.ok) (hw : Region.wanted ⟨d, .binOp .eql 33 x y t2, ty, ps, af, gd⟩ (yielded ops a.tmps) = true) (hx : a.eval x = .agg (EO.cells u).toArray) (hy : a.eval y = .agg (EO.cells v).toArray)
    (h : wpList Try.prog ops Q rest (a.put d (.bool (eqO u v))) w) : wpList Try.prog ops Q (⟨d, .binOp .eql 33 x y t2, ty, ps, af, gd⟩ :: rest) a w :=
  BigFrame.wpList_want hw fun _ hK => by
    unfold Oper.wp
    rw [exec_eql_or rfl hu hv hx hy w]
    exact hK _ _ h
/-- One and the same. -/
theorem wl_neq_or0 {u : Or} (hu : u.ok) (hw : Region.wanted ⟨d, .binOp .neq 33 x y t2, ty, ps, af, gd⟩ (yielded ops a.tmps) = true) (hx : a.eval x = .agg (EO.cells u).toArray) (hy : a.eval y = .agg (EO.cells u).toArray)
    (h : wpList Try.prog ops Q rest (a.put d (.bool false)) w) : wpList Try.prog ops Q (⟨d, .binOp .neq 33 x y t2, ty, ps, af, gd⟩ :: rest) a w :=
  wl_neq_or hu hu hw hx hy (by rw [eqO_yes]; exact h)
theorem wl_eql_or0 {u : Or} (hu : u.ok) (hw : Region.wanted ⟨d, .binOp .eql 33 x y t2, ty, ps, af, gd⟩ (yielded ops a.tmps) = true) (hx : a.eval x = .agg (EO.cells u).toArray) (hy : a.eval y = .agg (EO.cells u).toArray)
    (h : wpList Try.prog ops Q rest (a.put d (.bool true)) w) : wpList Try.prog ops Q (⟨d, .binOp .eql 33 x y t2, ty, ps, af, gd⟩ :: rest) a w :=
  wl_eql_or hu hu hw hx hy (by rw [eqO_yes]; exact h)
theorem built_or6 : Try.prog.built 33 [] = some (EO.cells zeroOr).toArray := by kernel_rfl
theorem wl_build0_or (hw : Region.wanted ⟨d, .build 33 #[], ty, ps, af, gd⟩ (yielded ops a.tmps) = true) (h : wpList Try.prog ops Q rest (a.put d (.agg (EO.cells zeroOr).toArray)) w) :
    wpList Try.prog ops Q (⟨d, .build 33 #[], ty, ps, af, gd⟩ :: rest) a w := by
  have e : ∀ f : (Nat × Operand) → (Nat × Value), (Array.map f #[]).toList = [] := fun f => by simp
  refine BigFrame.wpList_want hw fun _ hK => wp_build 33 #[] rfl (by rw [e, built_or6]; rfl) ?_
  rw [e, built_or6]
  exact hK _ _ h
end
/-- An order laid in a new block. -/
theorem put_or {W1 W2 : World} (x : Or) (q : Below W1.heap.size W1 W2) : ∃ W3, (W2.alloc (.cells (EO.cells zeroOr).toArray 33)).setRow W2.heap.size (EO.cells x).toArray = W3 ∧ Below W1.heap.size W1 W3 ∧ EO.Bx 33 W3 W2.heap.size x ∧ EO.Bx 33 (W2.alloc (.cells (EO.cells zeroOr).toArray 33)) W2.heap.size zeroOr ∧ W2.heap.size < W3.heap.size := by
  have b := below_row0 (cs := (EO.cells x).toArray) (below_new W2 (.cells (EO.cells zeroOr).toArray 33)) (Nat.le_refl _)
  have y := gbx_set (x := x) (gbx_new (E := EO) (te := 33) W2 zeroOr)
  exact ⟨_, rfl, q.trans (b.mono q.size), y, gbx_new W2 zeroOr, (Array.getElem?_eq_some_iff.1 y).1⟩
end Go.Proofs.Ytpnccbcaoifdiaa
