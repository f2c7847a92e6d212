/- Holders compared as Go compares structs (by genTpf.py); no program's function. -/
import Derived.DeepKeys
import Derived.Laws.StructEq
import Derived.Test.YtpfhkmppbochnaaHTpe
namespace Go.Proofs.Ytpfhkmppbochnaa
open Go.RowKit
set_option linter.unusedVariables false
set_option linter.unusedSimpArgs false

theorem wf14_i64 {x : Int} (h : I64 x) : (Lit.int .i64 x).wf = true := by
  unfold I64 at h
  simp [Lit.wf, IntKind.min, IntKind.max, IntKind.signed, IntKind.bits]
  omega
theorem wf14_u32 {x : Int} (h : 0 ≤ x ∧ x ≤ 4294967295) : (Lit.int .u32 x).wf = true := by
  simp [Lit.wf, IntKind.min, IntKind.max, IntKind.signed, IntKind.bits]
  omega
def Ho.lits (o : Ho) : List Lit := [.int .u32 o.ac, .int .i64 o.q]
theorem lits_ho14 (o : Ho) (ok : o.ok) : Try.prog.keyLits 3 32 (EH.cells o) = some o.lits := by
  have h0 := wf14_u32 ok.ac
  have h1 := wf14_i64 ok.q
  have c1 : Try.prog.cellsOf 30 = 1 := by kernel_rfl
  have c2 : Try.prog.cellsOf 2 = 1 := by kernel_rfl
  have c3 : Try.prog.cellsOf 4 = 1 := by kernel_rfl
  have c5 : Try.prog.cellsOf 32 = 2 := by kernel_rfl
  simp [Program.keyLits, EH, Ho.lits, c5, Try.underlying32, Try.underlying30, Try.underlying2, Try.underlying4, c1, c2, c3, h0, h1]
theorem formed_ho14 (o : Ho) : (Value.agg (EH.cells o).toArray).formed Try.prog 32 = true := by
  have c5 : Try.prog.cellsOf 32 = 2 := by kernel_rfl
  simp [Value.formed, Try.underlying32, c5, EH]
theorem key_ho14 : Try.prog.keyTypeAt 3 32 = true := by kernel_rfl
theorem guard_ho14 : Try.prog.eqGuardType Try.prog.depth 32 = false := by kernel_rfl
theorem ho14_lits_inj {x y : Ho} (h : x.lits = y.lits) : x = y := by
  obtain ⟨a, b⟩ := x
  obtain ⟨a', b'⟩ := y
  simp [Ho.lits] at h
  simp [h]
open Classical in
/-- The same Bool in every world. -/
noncomputable def eqHo14 (x y : Ho) : Bool := decide (x = y)
theorem eqHo14_yes (x : Ho) : eqHo14 x x = true := by simp [eqHo14]
theorem eqHo14_no {x y : Ho} (h : x ≠ y) : eqHo14 x y = false := by simp [eqHo14, h]
theorem eqHo14_iff {x y : Ho} : eqHo14 x y = true ↔ x = y := by simp [eqHo14]
theorem eq_ho14_run (x y : Ho) (hx : x.ok) (hy : y.ok) (w : World) : (Op.equalIn 10000 32 (.agg (EH.cells x).toArray) (.agg (EH.cells y).toArray)).run Try.prog w = .ok (eqHo14 x y) w := by
  have ex : (Value.agg (EH.cells x).toArray).cells.toList = EH.cells x := by simp [Value.cells]
  have ey : (Value.agg (EH.cells y).toArray).cells.toList = EH.cells y := by simp [Value.cells]
  obtain ⟨r, h1, h2⟩ := run_equalIn_deep (P := Try.prog) 9997 3 32 key_ho14 w 3 3 (.agg (EH.cells x).toArray) (.agg (EH.cells y).toArray) x.lits y.lits (formed_ho14 x) (formed_ho14 y) (by rw [ex]; exact lits_ho14 x hx) (by rw [ey]; exact lits_ho14 y hy)
  rw [h1]
  have : r = eqHo14 x y := by
    have h3 : r = true ↔ x = y := h2.trans ⟨ho14_lits_inj, fun e => by rw [e]⟩
    by_cases c : x = y
    · rw [h3.2 c, eqHo14_iff.2 c]
    · rw [eqHo14_no c]
      cases r
      · rfl
      · exact absurd (h3.1 rfl) c
  rw [this]
theorem exec_neq_ho14 {o : Oper} {a : Act} {x y : Operand} {t2 : TypeId} (ho : o.op = .binOp .neq 32 x y t2) {u v : Ho} (hu : u.ok) (hv : v.ok) (hx : a.eval x = .agg (EH.cells u).toArray) (hy : a.eval y = .agg (EH.cells v).toArray) (w : World) :
    (execOp a.eval o).run Try.prog w = .ok (.value (.bool !(eqHo14 u v))) w := by
  unfold execOp
  simp only [ho, hx, hy, Sem.run_bind, run_eqGuard_agg w _ _ _ _ _ _ guard_ho14, Result.andThen_ok, run_neq_struct, eq_ho14_run u v hu hv w, Sem.run_pure]
theorem exec_eql_ho14 {o : Oper} {a : Act} {x y : Operand} {t2 : TypeId} (ho : o.op = .binOp .eql 32 x y t2) {u v : Ho} (hu : u.ok) (hv : v.ok) (hx : a.eval x = .agg (EH.cells u).toArray) (hy : a.eval y = .agg (EH.cells v).toArray) (w : World) :
    (execOp a.eval o).run Try.prog w = .ok (.value (.bool (eqHo14 u v))) w := by
  unfold execOp
  simp only [ho, hx, hy, Sem.run_bind, run_eqGuard_agg w _ _ _ _ _ _ guard_ho14, Result.andThen_ok, run_eql_struct, eq_ho14_run u v hu hv w, Sem.run_pure]
theorem yields_neq_ho14 {ops : Array Oper} {S : World → Prop} {o : Oper} {a : Act} (hw : Region.wanted o (yielded ops a.tmps) = true) (x y : Operand) {t2 : TypeId} (ho : o.op = .binOp .neq 32 x y t2) {u v : Ho} (hu : u.ok) (hv : v.ok) (hx : a.eval x = .agg (EH.cells u).toArray) (hy : a.eval y = .agg (EH.cells v).toArray) :
    YieldsIf Try.prog ops S o (.bool !(eqHo14 u v)) a := .inl ⟨hw, fun w _ => exec_neq_ho14 ho hu hv hx hy w⟩
theorem yields_eql_ho14 {ops : Array Oper} {S : World → Prop} {o : Oper} {a : Act} (hw : Region.wanted o (yielded ops a.tmps) = true) (x y : Operand) {t2 : TypeId} (ho : o.op = .binOp .eql 32 x y t2) {u v : Ho} (hu : u.ok) (hv : v.ok) (hx : a.eval x = .agg (EH.cells u).toArray) (hy : a.eval y = .agg (EH.cells v).toArray) :
    YieldsIf Try.prog ops S o (.bool (eqHo14 u v)) a := .inl ⟨hw, fun w _ => exec_eql_ho14 ho hu hv hx hy w⟩
section
variable {ops : Array Oper} {rest : List Oper} {a : Act} {w : World} {Q : Exit → Act → World → Prop} {d : Option Nat} {x y : Operand} {t2 ty : TypeId} {ps : String} {af : Array Edge} {gd : Option (Nat × Bool)}
theorem wl_neq_ho14 {u v : Ho} (hu : u.ok) (hv : v.ok) (hw : Region.wanted ⟨d, .binOp .neq 32 x y t2, ty, ps, af, gd⟩ (yielded ops a.tmps) = true) (hx : a.eval x = .agg (EH.cells u).toArray) (hy : a.eval y = .agg (EH.cells v).toArray)
    (h : wpList Try.prog ops Q rest (a.put d (.bool !(eqHo14 u v))) w) : wpList Try.prog ops Q (⟨d, .binOp .neq 32 x y t2, ty, ps, af, gd⟩ :: rest) a w :=
  BigFrame.wpList_want hw fun _ hK => by
    unfold Oper.wp
    rw [exec_neq_ho14 rfl hu hv hx hy w]
    exact hK _ _ h
theorem wl_eql_ho14 {u v : Ho} (hu : u.ok) (hv : v.ok) (hw : Region.wanted ⟨d, .binOp .eql 32 x y t2, ty, ps, af, gd⟩ (yielded ops a.tmps) = true) (hx : a.eval x = .agg (EH.cells u).toArray) (hy : a.eval y = .agg (EH.cells v).toArray)
    (h : wpList Try.prog ops Q rest (a.put d (.bool (eqHo14 u v))) w) : wpList Try.prog ops Q (⟨d, .binOp .eql 32 x y t2, ty, ps, af, gd⟩ :: rest) a w :=
  BigFrame.wpList_want hw fun _ hK => by
    unfold Oper.wp
    rw [exec_eql_ho14 rfl hu hv hx hy w]
    exact hK _ _ h
theorem wl_neq_ho140 {u : Ho} (hu : u.ok) (hw : Region.wanted ⟨d, .binOp .neq 32 x y t2, ty, ps, af, gd⟩ (yielded ops a.tmps) = true) (hx : a.eval x = .agg (EH.cells u).toArray) (hy : a.eval y = .agg (EH.cells u).toArray)
    (h : wpList Try.prog ops Q rest (a.put d (.bool false)) w) : wpList Try.prog ops Q (⟨d, .binOp .neq 32 x y t2, ty, ps, af, gd⟩ :: rest) a w :=
  wl_neq_ho14 hu hu hw hx hy (by rw [eqHo14_yes]; exact h)
theorem wl_eql_ho140 {u : Ho} (hu : u.ok) (hw : Region.wanted ⟨d, .binOp .eql 32 x y t2, ty, ps, af, gd⟩ (yielded ops a.tmps) = true) (hx : a.eval x = .agg (EH.cells u).toArray) (hy : a.eval y = .agg (EH.cells u).toArray)
    (h : wpList Try.prog ops Q rest (a.put d (.bool true)) w) : wpList Try.prog ops Q (⟨d, .binOp .eql 32 x y t2, ty, ps, af, gd⟩ :: rest) a w :=
  wl_eql_ho14 hu hu hw hx hy (by rw [eqHo14_yes]; exact h)
end
end Go.Proofs.Ytpfhkmppbochnaa
