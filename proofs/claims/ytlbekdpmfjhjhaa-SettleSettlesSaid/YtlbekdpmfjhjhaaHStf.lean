/- Dues, and what became of them, compared as Go compares structs (by genStf.py); no program's function. -/
import Derived.DeepKeys
import Derived.Laws.StructEq
import Derived.Test.YtlbekdpmfjhjhaaHSte
namespace Go.Proofs.Ytlbekdpmfjhjhaa
open Go.RowKit
set_option linter.unusedVariables false
set_option linter.unusedSimpArgs false

theorem wf13_i64 {x : Int} (h : I64 x) : (Lit.int .i64 x).wf = true := by
  unfold I64 at h
  simp [Lit.wf, IntKind.min, IntKind.max, IntKind.signed, IntKind.bits]
  omega
theorem wf13_u32 {x : Int} (h : 0 ≤ x ∧ x ≤ 4294967295) : (Lit.int .u32 x).wf = true := by
  simp [Lit.wf, IntKind.min, IntKind.max, IntKind.signed, IntKind.bits]
  omega
structure Sd.ok (x : Sd) : Prop where
  ac : 0 ≤ x.ac ∧ x.ac ≤ 4294967295
  ca : I64 x.ca
  cu : I64 x.cu
def Du.lits (o : Du) : List Lit := [.int .u32 o.ac, .int .i64 o.ca, .int .i64 o.v]
theorem lits_du13 (o : Du) (ok : o.ok) : Try.prog.keyLits 3 30 (ED.cells o) = some o.lits := by
  have h0 := wf13_u32 ok.ac
  have h1 := wf13_i64 ok.ca
  have h2 := wf13_i64 ok.v
  have c1 : Try.prog.cellsOf 28 = 1 := by kernel_rfl
  have c2 : Try.prog.cellsOf 2 = 1 := by kernel_rfl
  have c3 : Try.prog.cellsOf 4 = 1 := by kernel_rfl
  have c5 : Try.prog.cellsOf 30 = 3 := by kernel_rfl
  simp [Program.keyLits, ED, Du.lits, c5, Try.underlying30, Try.underlying28, Try.underlying2, Try.underlying4, c1, c2, c3, h0, h1, h2]
theorem formed_du13 (o : Du) : (Value.agg (ED.cells o).toArray).formed Try.prog 30 = true := by
  have c5 : Try.prog.cellsOf 30 = 3 := by kernel_rfl
  simp [Value.formed, Try.underlying30, c5, ED]
theorem key_du13 : Try.prog.keyTypeAt 3 30 = true := by kernel_rfl
theorem guard_du13 : Try.prog.eqGuardType Try.prog.depth 30 = false := by kernel_rfl
theorem du13_lits_inj {x y : Du} (h : x.lits = y.lits) : x = y := by
  obtain ⟨a, b, c⟩ := x
  obtain ⟨a', b', c'⟩ := y
  simp [Du.lits] at h
  simp [h]
open Classical in
/-- The same Bool in every world. -/
noncomputable def eqDu13 (x y : Du) : Bool := decide (x = y)
theorem eqDu13_yes (x : Du) : eqDu13 x x = true := by simp [eqDu13]
theorem eqDu13_no {x y : Du} (h : x ≠ y) : eqDu13 x y = false := by simp [eqDu13, h]
theorem eqDu13_iff {x y : Du} : eqDu13 x y = true ↔ x = y := by simp [eqDu13]
theorem eq_du13_run (x y : Du) (hx : x.ok) (hy : y.ok) (w : World) : (Op.equalIn 10000 30 (.agg (ED.cells x).toArray) (.agg (ED.cells y).toArray)).run Try.prog w = .ok (eqDu13 x y) w := by
  have ex : (Value.agg (ED.cells x).toArray).cells.toList = ED.cells x := by simp [Value.cells]
  have ey : (Value.agg (ED.cells y).toArray).cells.toList = ED.cells y := by simp [Value.cells]
  obtain ⟨r, h1, h2⟩ := run_equalIn_deep (P := Try.prog) 9997 3 30 key_du13 w 3 3 (.agg (ED.cells x).toArray) (.agg (ED.cells y).toArray) x.lits y.lits (formed_du13 x) (formed_du13 y) (by rw [ex]; exact lits_du13 x hx) (by rw [ey]; exact lits_du13 y hy)
  rw [h1]
  have : r = eqDu13 x y := by
    have h3 : r = true ↔ x = y := h2.trans ⟨du13_lits_inj, fun e => by rw [e]⟩
    by_cases c : x = y
    · rw [h3.2 c, eqDu13_iff.2 c]
    · rw [eqDu13_no c]
      cases r
      · rfl
      · exact absurd (h3.1 rfl) c
  rw [this]
theorem exec_neq_du13 {o : Oper} {a : Act} {x y : Operand} {t2 : TypeId} (ho : o.op = .binOp .neq 30 x y t2) {u v : Du} (hu : u.ok) (hv : v.ok) (hx : a.eval x = .agg (ED.cells u).toArray) (hy : a.eval y = .agg (ED.cells v).toArray) (w : World) :
    (execOp a.eval o).run Try.prog w = .ok (.value (.bool !(eqDu13 u v))) w := by
  unfold execOp
  simp only [ho, hx, hy, Sem.run_bind, run_eqGuard_agg w _ _ _ _ _ _ guard_du13, Result.andThen_ok, run_neq_struct, eq_du13_run u v hu hv w, Sem.run_pure]
theorem exec_eql_du13 {o : Oper} {a : Act} {x y : Operand} {t2 : TypeId} (ho : o.op = .binOp .eql 30 x y t2) {u v : Du} (hu : u.ok) (hv : v.ok) (hx : a.eval x = .agg (ED.cells u).toArray) (hy : a.eval y = .agg (ED.cells v).toArray) (w : World) :
    (execOp a.eval o).run Try.prog w = .ok (.value (.bool (eqDu13 u v))) w := by
  unfold execOp
  simp only [ho, hx, hy, Sem.run_bind, run_eqGuard_agg w _ _ _ _ _ _ guard_du13, Result.andThen_ok, run_eql_struct, eq_du13_run u v hu hv w, Sem.run_pure]
theorem yields_neq_du13 {ops : Array Oper} {S : World → Prop} {o : Oper} {a : Act} (hw : Region.wanted o (yielded ops a.tmps) = true) (x y : Operand) {t2 : TypeId} (ho : o.op = .binOp .neq 30 x y t2) {u v : Du} (hu : u.ok) (hv : v.ok) (hx : a.eval x = .agg (ED.cells u).toArray) (hy : a.eval y = .agg (ED.cells v).toArray) :
    YieldsIf Try.prog ops S o (.bool !(eqDu13 u v)) a := .inl ⟨hw, fun w _ => exec_neq_du13 ho hu hv hx hy w⟩
theorem yields_eql_du13 {ops : Array Oper} {S : World → Prop} {o : Oper} {a : Act} (hw : Region.wanted o (yielded ops a.tmps) = true) (x y : Operand) {t2 : TypeId} (ho : o.op = .binOp .eql 30 x y t2) {u v : Du} (hu : u.ok) (hv : v.ok) (hx : a.eval x = .agg (ED.cells u).toArray) (hy : a.eval y = .agg (ED.cells v).toArray) :
    YieldsIf Try.prog ops S o (.bool (eqDu13 u v)) a := .inl ⟨hw, fun w _ => exec_eql_du13 ho hu hv hx hy w⟩
section
variable {ops : Array Oper} {rest : List Oper} {a : Act} {w : World} {Q : Exit → Act → World → Prop} {d : Option Nat} {x y : Operand} {t2 ty : TypeId} {ps : String} {af : Array Edge} {gd : Option (Nat × Bool)}
theorem wl_neq_du13 {u v : Du} (hu : u.ok) (hv : v.ok) (hw : Region.wanted ⟨d, .binOp .neq 30 x y t2, ty, ps, af, gd⟩ (yielded ops a.tmps) = true) (hx : a.eval x = .agg (ED.cells u).toArray) (hy : a.eval y = .agg (ED.cells v).toArray)
    (h : wpList Try.prog ops Q rest (a.put d (.bool !(eqDu13 u v))) w) : wpList Try.prog ops Q (⟨d, .binOp .neq 30 x y t2, ty, ps, af, gd⟩ :: rest) a w :=
  BigFrame.wpList_want hw fun _ hK => by
    unfold Oper.wp
    rw [exec_neq_du13 rfl hu hv hx hy w]
    exact hK _ _ h
theorem wl_eql_du13 {u v : Du} (hu : u.ok) (hv : v.ok) (hw : Region.wanted ⟨d, .binOp .eql 30 x y t2, ty, ps, af, gd⟩ (yielded ops a.tmps) = true) (hx : a.eval x = .agg (ED.cells u).toArray) (hy : a.eval y = .agg (ED.cells v).toArray)
    (h : wpList Try.prog ops Q rest (a.put d (.bool (eqDu13 u v))) w) : wpList Try.prog ops Q (⟨d, .binOp .eql 30 x y t2, ty, ps, af, gd⟩ :: rest) a w :=
  BigFrame.wpList_want hw fun _ hK => by
    unfold Oper.wp
    rw [exec_eql_du13 rfl hu hv hx hy w]
    exact hK _ _ h
theorem wl_neq_du130 {u : Du} (hu : u.ok) (hw : Region.wanted ⟨d, .binOp .neq 30 x y t2, ty, ps, af, gd⟩ (yielded ops a.tmps) = true) (hx : a.eval x = .agg (ED.cells u).toArray) (hy : a.eval y = .agg (ED.cells u).toArray)
    (h : wpList Try.prog ops Q rest (a.put d (.bool false)) w) : wpList Try.prog ops Q (⟨d, .binOp .neq 30 x y t2, ty, ps, af, gd⟩ :: rest) a w :=
  wl_neq_du13 hu hu hw hx hy (by rw [eqDu13_yes]; exact h)
theorem wl_eql_du130 {u : Du} (hu : u.ok) (hw : Region.wanted ⟨d, .binOp .eql 30 x y t2, ty, ps, af, gd⟩ (yielded ops a.tmps) = true) (hx : a.eval x = .agg (ED.cells u).toArray) (hy : a.eval y = .agg (ED.cells u).toArray)
    (h : wpList Try.prog ops Q rest (a.put d (.bool true)) w) : wpList Try.prog ops Q (⟨d, .binOp .eql 30 x y t2, ty, ps, af, gd⟩ :: rest) a w :=
  wl_eql_du13 hu hu hw hx hy (by rw [eqDu13_yes]; exact h)
end
def Sd.lits (o : Sd) : List Lit := [.int .u32 o.ac, .int .i64 o.ca, .bool o.de, .int .i64 o.cu]
theorem lits_sd13 (o : Sd) (ok : o.ok) : Try.prog.keyLits 3 34 (ESd.cells o) = some o.lits := by
  have h0 := wf13_u32 ok.ac
  have h1 := wf13_i64 ok.ca
  have h2 := wf13_i64 ok.cu
  have c1 : Try.prog.cellsOf 28 = 1 := by kernel_rfl
  have c2 : Try.prog.cellsOf 2 = 1 := by kernel_rfl
  have c3 : Try.prog.cellsOf 4 = 1 := by kernel_rfl
  have c5 : Try.prog.cellsOf 34 = 4 := by kernel_rfl
  simp [Program.keyLits, ESd, Sd.lits, c5, Try.underlying34, Try.underlying28, Try.underlying2, Try.underlying4, c1, c2, c3, h0, h1, h2]
theorem formed_sd13 (o : Sd) : (Value.agg (ESd.cells o).toArray).formed Try.prog 34 = true := by
  have c5 : Try.prog.cellsOf 34 = 4 := by kernel_rfl
  simp [Value.formed, Try.underlying34, c5, ESd]
theorem key_sd13 : Try.prog.keyTypeAt 3 34 = true := by kernel_rfl
theorem guard_sd13 : Try.prog.eqGuardType Try.prog.depth 34 = false := by kernel_rfl
theorem sd13_lits_inj {x y : Sd} (h : x.lits = y.lits) : x = y := by
  obtain ⟨a, b, c, d⟩ := x
  obtain ⟨a', b', c', d'⟩ := y
  simp [Sd.lits] at h
  simp [h]
open Classical in
/-- The same Bool in every world. -/
noncomputable def eqSd13 (x y : Sd) : Bool := decide (x = y)
theorem eqSd13_yes (x : Sd) : eqSd13 x x = true := by simp [eqSd13]
theorem eqSd13_no {x y : Sd} (h : x ≠ y) : eqSd13 x y = false := by simp [eqSd13, h]
theorem eqSd13_iff {x y : Sd} : eqSd13 x y = true ↔ x = y := by simp [eqSd13]
theorem eq_sd13_run (x y : Sd) (hx : x.ok) (hy : y.ok) (w : World) : (Op.equalIn 10000 34 (.agg (ESd.cells x).toArray) (.agg (ESd.cells y).toArray)).run Try.prog w = .ok (eqSd13 x y) w := by
  have ex : (Value.agg (ESd.cells x).toArray).cells.toList = ESd.cells x := by simp [Value.cells]
  have ey : (Value.agg (ESd.cells y).toArray).cells.toList = ESd.cells y := by simp [Value.cells]
  obtain ⟨r, h1, h2⟩ := run_equalIn_deep (P := Try.prog) 9997 3 34 key_sd13 w 3 3 (.agg (ESd.cells x).toArray) (.agg (ESd.cells y).toArray) x.lits y.lits (formed_sd13 x) (formed_sd13 y) (by rw [ex]; exact lits_sd13 x hx) (by rw [ey]; exact lits_sd13 y hy)
  rw [h1]
  have : r = eqSd13 x y := by
    have h3 : r = true ↔ x = y := h2.trans ⟨sd13_lits_inj, fun e => by rw [e]⟩
    by_cases c : x = y
    · rw [h3.2 c, eqSd13_iff.2 c]
    · rw [eqSd13_no c]
      cases r
      · rfl
      · exact absurd (h3.1 rfl) c
  rw [this]
theorem exec_neq_sd13 {o : Oper} {a : Act} {x y : Operand} {t2 : TypeId} (ho : o.op = .binOp .neq 34 x y t2) {u v : Sd} (hu : u.ok) (hv : v.ok) (hx : a.eval x = .agg (ESd.cells u).toArray) (hy : a.eval y = .agg (ESd.cells v).toArray) (w : World) :
    (execOp a.eval o).run Try.prog w = .ok (.value (.bool !(eqSd13 u v))) w := by
  unfold execOp
  simp only [ho, hx, hy, Sem.run_bind, run_eqGuard_agg w _ _ _ _ _ _ guard_sd13, Result.andThen_ok, run_neq_struct, eq_sd13_run u v hu hv w, Sem.run_pure]
theorem exec_eql_sd13 {o : Oper} {a : Act} {x y : Operand} {t2 : TypeId} (ho : o.op = .binOp .eql 34 x y t2) {u v : Sd} (hu : u.ok) (hv : v.ok) (hx : a.eval x = .agg (ESd.cells u).toArray) (hy : a.eval y = .agg (ESd.cells v).toArray) (w : World) :
    (execOp a.eval o).run Try.prog w = .ok (.value (.bool (eqSd13 u v))) w := by
  unfold execOp
  simp only [ho, hx, hy, Sem.run_bind, run_eqGuard_agg w _ _ _ _ _ _ guard_sd13, Result.andThen_ok, run_eql_struct, eq_sd13_run u v hu hv w, Sem.run_pure]
theorem yields_neq_sd13 {ops : Array Oper} {S : World → Prop} {o : Oper} {a : Act} (hw : Region.wanted o (yielded ops a.tmps) = true) (x y : Operand) {t2 : TypeId} (ho : o.op = .binOp .neq 34 x y t2) {u v : Sd} (hu : u.ok) (hv : v.ok) (hx : a.eval x = .agg (ESd.cells u).toArray) (hy : a.eval y = .agg (ESd.cells v).toArray) :
    YieldsIf Try.prog ops S o (.bool !(eqSd13 u v)) a := .inl ⟨hw, fun w _ => exec_neq_sd13 ho hu hv hx hy w⟩
theorem yields_eql_sd13 {ops : Array Oper} {S : World → Prop} {o : Oper} {a : Act} (hw : Region.wanted o (yielded ops a.tmps) = true) (x y : Operand) {t2 : TypeId} (ho : o.op = .binOp .eql 34 x y t2) {u v : Sd} (hu : u.ok) (hv : v.ok) (hx : a.eval x = .agg (ESd.cells u).toArray) (hy : a.eval y = .agg (ESd.cells v).toArray) :
    YieldsIf Try.prog ops S o (.bool (eqSd13 u v)) a := .inl ⟨hw, fun w _ => exec_eql_sd13 ho hu hv hx hy w⟩
section
variable {ops : Array Oper} {rest : List Oper} {a : Act} {w : World} {Q : Exit → Act → World → Prop} {d : Option Nat} {x y : Operand} {t2 ty : TypeId} {ps : String} {af : Array Edge} {gd : Option (Nat × Bool)}
theorem wl_neq_sd13 {u v : Sd} (hu : u.ok) (hv : v.ok) (hw : Region.wanted ⟨d, .binOp .neq 34 x y t2, ty, ps, af, gd⟩ (yielded ops a.tmps) = true) (hx : a.eval x = .agg (ESd.cells u).toArray) (hy : a.eval y = .agg (ESd.cells v).toArray)
    (h : wpList Try.prog ops Q rest (a.put d (.bool !(eqSd13 u v))) w) : wpList Try.prog ops Q (⟨d, .binOp .neq 34 x y t2, ty, ps, af, gd⟩ :: rest) a w :=
  BigFrame.wpList_want hw fun _ hK => by
    unfold Oper.wp
    rw [exec_neq_sd13 rfl hu hv hx hy w]
    exact hK _ _ h
theorem wl_eql_sd13 {u v : Sd} (hu : u.ok) (hv : v.ok) (hw : Region.wanted ⟨d, .binOp .eql 34 x y t2, ty, ps, af, gd⟩ (yielded ops a.tmps) = true) (hx : a.eval x = .agg (ESd.cells u).toArray) (hy : a.eval y = .agg (ESd.cells v).toArray)
    (h : wpList Try.prog ops Q rest (a.put d (.bool (eqSd13 u v))) w) : wpList Try.prog ops Q (⟨d, .binOp .eql 34 x y t2, ty, ps, af, gd⟩ :: rest) a w :=
  BigFrame.wpList_want hw fun _ hK => by
    unfold Oper.wp
    rw [exec_eql_sd13 rfl hu hv hx hy w]
    exact hK _ _ h
theorem wl_neq_sd130 {u : Sd} (hu : u.ok) (hw : Region.wanted ⟨d, .binOp .neq 34 x y t2, ty, ps, af, gd⟩ (yielded ops a.tmps) = true) (hx : a.eval x = .agg (ESd.cells u).toArray) (hy : a.eval y = .agg (ESd.cells u).toArray)
    (h : wpList Try.prog ops Q rest (a.put d (.bool false)) w) : wpList Try.prog ops Q (⟨d, .binOp .neq 34 x y t2, ty, ps, af, gd⟩ :: rest) a w :=
  wl_neq_sd13 hu hu hw hx hy (by rw [eqSd13_yes]; exact h)
theorem wl_eql_sd130 {u : Sd} (hu : u.ok) (hw : Region.wanted ⟨d, .binOp .eql 34 x y t2, ty, ps, af, gd⟩ (yielded ops a.tmps) = true) (hx : a.eval x = .agg (ESd.cells u).toArray) (hy : a.eval y = .agg (ESd.cells u).toArray)
    (h : wpList Try.prog ops Q rest (a.put d (.bool true)) w) : wpList Try.prog ops Q (⟨d, .binOp .eql 34 x y t2, ty, ps, af, gd⟩ :: rest) a w :=
  wl_eql_sd13 hu hu hw hx hy (by rw [eqSd13_yes]; exact h)
end
end Go.Proofs.Ytlbekdpmfjhjhaa
