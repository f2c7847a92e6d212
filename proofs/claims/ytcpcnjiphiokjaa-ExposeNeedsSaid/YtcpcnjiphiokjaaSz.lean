/- Two orders compared as Go compares structs; no program's function. -/
import Derived.Test.YtcpcnjiphiokjaaSb
import Derived.DeepKeys
import Derived.Laws.StructEq
namespace Go.Proofs.Ytcpcnjiphiokjaa
open Go.RowKit

def Or.lits (o : Or) : List Lit := [.int .u64 o.nu, .int .u32 o.ac, .bool o.bu, .int .i64 o.pr, .int .i64 o.le]
theorem lits_or (o : Or) (ok : o.ok) : Try.prog.keyLits 3 41 (EO.cells o) = some o.lits := by
  have h0 : (Lit.int .u64 o.nu).wf = true := by
    have := ok.nu
    simp [Lit.wf, IntKind.min, IntKind.max, IntKind.signed, IntKind.bits]
    omega
  have h1 : (Lit.int .u32 o.ac).wf = true := by
    have := ok.ac
    simp [Lit.wf, IntKind.min, IntKind.max, IntKind.signed, IntKind.bits]
    omega
  have h3 : (Lit.int .i64 o.pr).wf = true := by
    obtain ⟨a, b⟩ := ok.pr
    simp [Lit.wf, IntKind.min, IntKind.max, IntKind.signed, IntKind.bits]
    omega
  have h4 : (Lit.int .i64 o.le).wf = true := by
    obtain ⟨a, b⟩ := ok.le
    simp [Lit.wf, IntKind.min, IntKind.max, IntKind.signed, IntKind.bits]
    omega
  have c1 : Try.prog.cellsOf 39 = 1 := by kernel_rfl
  have c2 : Try.prog.cellsOf 25 = 1 := by kernel_rfl
  have c3 : Try.prog.cellsOf 4 = 1 := by kernel_rfl
  have c4 : Try.prog.cellsOf 2 = 1 := by kernel_rfl
  have c5 : Try.prog.cellsOf 41 = 5 := by kernel_rfl
  simp [Program.keyLits, EO, Or.cells, Or.lits, c5, Try.underlying41, Try.underlying39, Try.underlying25, Try.underlying4, Try.underlying2, c1, c2, c3, c4, h0, h1, h3, h4]
theorem formed_or (o : Or) : (Value.agg (EO.cells o).toArray).formed Try.prog 41 = true := by
  have c5 : Try.prog.cellsOf 41 = 5 := by kernel_rfl
  simp [Value.formed, Try.underlying41, c5, EO, Or.cells]
theorem key_or : Try.prog.keyTypeAt 3 41 = true := by kernel_rfl
theorem guard_or : Try.prog.eqGuardType Try.prog.depth 41 = false := by kernel_rfl
theorem or_lits_inj {x y : Or} (h : x.lits = y.lits) : x = y := by
  obtain ⟨a, b, c, d, e⟩ := x
  obtain ⟨a', b', c', d', e'⟩ := y
  simp [Or.lits] at h
  simp [h]
open Classical in
/-- The same Bool in every world. -/
noncomputable def eqO (x y : Or) : Bool := decide (x = y)
theorem eqO_yes (x : Or) : eqO x x = true := by simp [eqO]
theorem eqO_no {x y : Or} (h : x ≠ y) : eqO x y = false := by simp [eqO, h]
theorem eqO_iff {x y : Or} : eqO x y = true ↔ x = y := by simp [eqO]
theorem eq_or_run (x y : Or) (hx : x.ok) (hy : y.ok) (w : World) : (Op.equalIn 10000 41 (.agg (EO.cells x).toArray) (.agg (EO.cells y).toArray)).run Try.prog w = .ok (eqO x y) w := by
  have ex : (Value.agg (EO.cells x).toArray).cells.toList = EO.cells x := by simp [Value.cells]
  have ey : (Value.agg (EO.cells y).toArray).cells.toList = EO.cells y := by simp [Value.cells]
  obtain ⟨r, h1, h2⟩ := run_equalIn_deep (P := Try.prog) 9997 3 41 key_or w 3 3 (.agg (EO.cells x).toArray) (.agg (EO.cells y).toArray) x.lits y.lits (formed_or x) (formed_or y) (by rw [ex]; exact lits_or x hx) (by rw [ey]; exact lits_or y hy)
  rw [h1]
  have : r = eqO x y := by
    have h3 : r = true ↔ x = y := h2.trans ⟨or_lits_inj, fun e => by rw [e]⟩
    by_cases c : x = y
    · rw [h3.2 c, eqO_iff.2 c]
    · rw [eqO_no c]
      cases r
      · rfl
      · exact absurd (h3.1 rfl) c
  rw [this]
theorem exec_neq_or {o : Oper} {a : Act} {x y : Operand} {t2 : TypeId} (ho : o.op = .binOp .neq 41 x y t2) {u v : Or} (hu : u.ok) (hv : v.ok) (hx : a.eval x = .agg (EO.cells u).toArray) (hy : a.eval y = .agg (EO.cells v).toArray) (w : World) :
    (execOp a.eval o).run Try.prog w = .ok (.value (.bool !(eqO u v))) w := by
  unfold execOp
  simp only [ho, hx, hy, Sem.run_bind, run_eqGuard_agg w _ _ _ _ _ _ guard_or, Result.andThen_ok, run_neq_struct, eq_or_run u v hu hv w, Sem.run_pure]
theorem exec_eql_or {o : Oper} {a : Act} {x y : Operand} {t2 : TypeId} (ho : o.op = .binOp .eql 41 x y t2) {u v : Or} (hu : u.ok) (hv : v.ok) (hx : a.eval x = .agg (EO.cells u).toArray) (hy : a.eval y = .agg (EO.cells v).toArray) (w : World) :
    (execOp a.eval o).run Try.prog w = .ok (.value (.bool (eqO u v))) w := by
  unfold execOp
  simp only [ho, hx, hy, Sem.run_bind, run_eqGuard_agg w _ _ _ _ _ _ guard_or, Result.andThen_ok, run_eql_struct, eq_or_run u v hu hv w, Sem.run_pure]
theorem yields_neq_or {ops : Array Oper} {S : World → Prop} {o : Oper} {a : Act} (hw : Region.wanted o (yielded ops a.tmps) = true) (x y : Operand) {t2 : TypeId} (ho : o.op = .binOp .neq 41 x y t2) {u v : Or} (hu : u.ok) (hv : v.ok) (hx : a.eval x = .agg (EO.cells u).toArray) (hy : a.eval y = .agg (EO.cells v).toArray) :
    YieldsIf Try.prog ops S o (.bool !(eqO u v)) a := .inl ⟨hw, fun w _ => exec_neq_or ho hu hv hx hy w⟩
theorem yields_eql_or {ops : Array Oper} {S : World → Prop} {o : Oper} {a : Act} (hw : Region.wanted o (yielded ops a.tmps) = true) (x y : Operand) {t2 : TypeId} (ho : o.op = .binOp .eql 41 x y t2) {u v : Or} (hu : u.ok) (hv : v.ok) (hx : a.eval x = .agg (EO.cells u).toArray) (hy : a.eval y = .agg (EO.cells v).toArray) :
    YieldsIf Try.prog ops S o (.bool (eqO u v)) a := .inl ⟨hw, fun w _ => exec_eql_or ho hu hv hx hy w⟩
end Go.Proofs.Ytcpcnjiphiokjaa
