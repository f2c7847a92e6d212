/- Two fills compared as Go compares structs; no program's function. -/
import Derived.Test.YtcjianjnedbjkaaAk
import Derived.DeepKeys
import Derived.Laws.StructEq
namespace Go.Proofs.Ytcjianjnedbjkaa
open Go.RowKit

structure Fl.ok (o : Fl) : Prop where
  nu : 0 ≤ o.nu ∧ o.nu ≤ 18446744073709551615
  ac : 0 ≤ o.ac ∧ o.ac ≤ 4294967295
  qt : I64' o.qt
def Fl.lits (o : Fl) : List Lit := [.int .u64 o.nu, .int .u32 o.ac, .int .i64 o.qt]
theorem lits_fl (o : Fl) (ok : o.ok) : Try.prog.keyLits 3 36 (EF.cells o) = some o.lits := by
  have h1 : (Lit.int .i64 o.qt).wf = true := by
    obtain ⟨a, b⟩ := ok.qt
    simp [Lit.wf, IntKind.min, IntKind.max, IntKind.signed, IntKind.bits]
    omega
  have h3 : (Lit.int .u64 o.nu).wf = true := by
    have := ok.nu
    simp [Lit.wf, IntKind.min, IntKind.max, IntKind.signed, IntKind.bits]
    omega
  have h4 : (Lit.int .u32 o.ac).wf = true := by
    have := ok.ac
    simp [Lit.wf, IntKind.min, IntKind.max, IntKind.signed, IntKind.bits]
    omega
  have c1 : Try.prog.cellsOf 28 = 1 := by kernel_rfl
  have c2 : Try.prog.cellsOf 29 = 1 := by kernel_rfl
  have c4 : Try.prog.cellsOf 2 = 1 := by kernel_rfl
  have c5 : Try.prog.cellsOf 36 = 3 := by kernel_rfl
  simp [Program.keyLits, EF, Fl.cells, Fl.lits, c5, Try.underlying36, Try.underlying28, Try.underlying29, Try.underlying2, c1, c2, c4, h1, h3, h4]
theorem formed_fl (o : Fl) : (Value.agg (EF.cells o).toArray).formed Try.prog 36 = true := by
  have c5 : Try.prog.cellsOf 36 = 3 := by kernel_rfl
  simp [Value.formed, Try.underlying36, c5, EF, Fl.cells]
theorem key_fl : Try.prog.keyTypeAt 3 36 = true := by kernel_rfl
theorem guard_fl : Try.prog.eqGuardType Try.prog.depth 36 = false := by kernel_rfl
theorem fl_lits_inj {x y : Fl} (h : x.lits = y.lits) : x = y := by
  obtain ⟨a, b, c⟩ := x
  obtain ⟨a', b', c'⟩ := y
  simp [Fl.lits] at h
  simp [h]
open Classical in
/-- The same Bool in every world. -/
noncomputable def eqF (x y : Fl) : Bool := decide (x = y)
theorem eqF_yes (x : Fl) : eqF x x = true := by simp [eqF]
theorem eqF_no {x y : Fl} (h : x ≠ y) : eqF x y = false := by simp [eqF, h]
theorem eqF_iff {x y : Fl} : eqF x y = true ↔ x = y := by simp [eqF]
theorem eq_fl_run (x y : Fl) (hx : x.ok) (hy : y.ok) (w : World) : (Op.equalIn 10000 36 (.agg (EF.cells x).toArray) (.agg (EF.cells y).toArray)).run Try.prog w = .ok (eqF x y) w := by
  have ex : (Value.agg (EF.cells x).toArray).cells.toList = EF.cells x := by simp [Value.cells]
  have ey : (Value.agg (EF.cells y).toArray).cells.toList = EF.cells y := by simp [Value.cells]
  obtain ⟨r, h1, h2⟩ := run_equalIn_deep (P := Try.prog) 9997 3 36 key_fl w 3 3 (.agg (EF.cells x).toArray) (.agg (EF.cells y).toArray) x.lits y.lits (formed_fl x) (formed_fl y) (by rw [ex]; exact lits_fl x hx) (by rw [ey]; exact lits_fl y hy)
  rw [h1]
  have : r = eqF x y := by
    have h3 : r = true ↔ x = y := h2.trans ⟨fl_lits_inj, fun e => by rw [e]⟩
    by_cases c : x = y
    · rw [h3.2 c, eqF_iff.2 c]
    · rw [eqF_no c]
      cases r
      · rfl
      · exact absurd (h3.1 rfl) c
  rw [this]
theorem exec_neq_fl {o : Oper} {a : Act} {x y : Operand} {t2 : TypeId} (ho : o.op = .binOp .neq 36 x y t2) {u v : Fl} (hu : u.ok) (hv : v.ok) (hx : a.eval x = .agg (EF.cells u).toArray) (hy : a.eval y = .agg (EF.cells v).toArray) (w : World) :
    (execOp a.eval o).run Try.prog w = .ok (.value (.bool !(eqF u v))) w := by
  unfold execOp
  simp only [ho, hx, hy, Sem.run_bind, run_eqGuard_agg w _ _ _ _ _ _ guard_fl, Result.andThen_ok, run_neq_struct, eq_fl_run u v hu hv w, Sem.run_pure]
theorem exec_eql_fl {o : Oper} {a : Act} {x y : Operand} {t2 : TypeId} (ho : o.op = .binOp .eql 36 x y t2) {u v : Fl} (hu : u.ok) (hv : v.ok) (hx : a.eval x = .agg (EF.cells u).toArray) (hy : a.eval y = .agg (EF.cells v).toArray) (w : World) :
    (execOp a.eval o).run Try.prog w = .ok (.value (.bool (eqF u v))) w := by
  unfold execOp
  simp only [ho, hx, hy, Sem.run_bind, run_eqGuard_agg w _ _ _ _ _ _ guard_fl, Result.andThen_ok, run_eql_struct, eq_fl_run u v hu hv w, Sem.run_pure]
theorem yields_neq_fl {ops : Array Oper} {S : World → Prop} {o : Oper} {a : Act} (hw : Region.wanted o (yielded ops a.tmps) = true) (x y : Operand) {t2 : TypeId} (ho : o.op = .binOp .neq 36 x y t2) {u v : Fl} (hu : u.ok) (hv : v.ok) (hx : a.eval x = .agg (EF.cells u).toArray) (hy : a.eval y = .agg (EF.cells v).toArray) :
    YieldsIf Try.prog ops S o (.bool !(eqF u v)) a := .inl ⟨hw, fun w _ => exec_neq_fl ho hu hv hx hy w⟩
theorem yields_eql_fl {ops : Array Oper} {S : World → Prop} {o : Oper} {a : Act} (hw : Region.wanted o (yielded ops a.tmps) = true) (x y : Operand) {t2 : TypeId} (ho : o.op = .binOp .eql 36 x y t2) {u v : Fl} (hu : u.ok) (hv : v.ok) (hx : a.eval x = .agg (EF.cells u).toArray) (hy : a.eval y = .agg (EF.cells v).toArray) :
    YieldsIf Try.prog ops S o (.bool (eqF u v)) a := .inl ⟨hw, fun w _ => exec_eql_fl ho hu hv hx hy w⟩
section
variable {ops : Array Oper} {rest : List Oper} {a : Act} {w : World} {Q : Exit → Act → World → Prop} {d : Option Nat} {x y : Operand} {t2 ty : TypeId} {ps : String} {af : Array Edge} {gd : Option (Nat × Bool)}
theorem wl_neq_fl {u v : Fl} (hu : u.ok) (hv : v.ok) (hw : Region.wanted ⟨d, .binOp .neq 36 x y t2, ty, ps, af, gd⟩ (yielded ops a.tmps) = true) (hx : a.eval x = .agg (EF.cells u).toArray) (hy : a.eval y = .agg (EF.cells v).toArray)
    (h : wpList Try.prog ops Q rest (a.put d (.bool !(eqF u v))) w) : wpList Try.prog ops Q (⟨d, .binOp .neq 36 x y t2, ty, ps, af, gd⟩ :: rest) a w :=
  BigFrame.wpList_want hw fun _ hK => by
    unfold Oper.wp
    rw [exec_neq_fl rfl hu hv hx hy w]
    exact hK _ _ h
theorem wl_eql_fl {u v : Fl} (hu : u.ok) (hv : v.ok) (hw : Region.wanted ⟨d, .binOp .eql 36 x y t2, ty, ps, af, gd⟩ (yielded ops a.tmps) = true) (hx : a.eval x = .agg (EF.cells u).toArray) (hy : a.eval y = .agg (EF.cells v).toArray)
    (h : wpList Try.prog ops Q rest (a.put d (.bool (eqF u v))) w) : wpList Try.prog ops Q (⟨d, .binOp .eql 36 x y t2, ty, ps, af, gd⟩ :: rest) a w :=
  BigFrame.wpList_want hw fun _ hK => by
    unfold Oper.wp
    rw [exec_eql_fl rfl hu hv hx hy w]
    exact hK _ _ h
theorem wl_neq_fl0 {u : Fl} (hu : u.ok) (hw : Region.wanted ⟨d, .binOp .neq 36 x y t2, ty, ps, af, gd⟩ (yielded ops a.tmps) = true) (hx : a.eval x = .agg (EF.cells u).toArray) (hy : a.eval y = .agg (EF.cells u).toArray)
    (h : wpList Try.prog ops Q rest (a.put d (.bool false)) w) : wpList Try.prog ops Q (⟨d, .binOp .neq 36 x y t2, ty, ps, af, gd⟩ :: rest) a w :=
  wl_neq_fl hu hu hw hx hy (by rw [eqF_yes]; exact h)
theorem wl_eql_fl0 {u : Fl} (hu : u.ok) (hw : Region.wanted ⟨d, .binOp .eql 36 x y t2, ty, ps, af, gd⟩ (yielded ops a.tmps) = true) (hx : a.eval x = .agg (EF.cells u).toArray) (hy : a.eval y = .agg (EF.cells u).toArray)
    (h : wpList Try.prog ops Q rest (a.put d (.bool true)) w) : wpList Try.prog ops Q (⟨d, .binOp .eql 36 x y t2, ty, ps, af, gd⟩ :: rest) a w :=
  wl_eql_fl hu hu hw hx hy (by rw [eqF_yes]; exact h)
end
end Go.Proofs.Ytcjianjnedbjkaa
