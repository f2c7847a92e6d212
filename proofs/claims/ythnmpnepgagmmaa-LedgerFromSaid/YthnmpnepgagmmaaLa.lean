/- Accounts, positions, variations compared as Go compares structs (by genLa.py); no program's function. -/
import Derived.Test.YthnmpnepgagmmaaMb
import Derived.DeepKeys
import Derived.Laws.StructEq
namespace Go.Proofs.Ythnmpnepgagmmaa
open Go.RowKit Go.Shelf
set_option linter.unusedSimpArgs false

theorem wf9_i64 {x : Int} (h : -9223372036854775808 ≤ x ∧ x ≤ 9223372036854775807) : (Lit.int .i64 x).wf = true := by
  simp [Lit.wf, IntKind.min, IntKind.max, IntKind.signed, IntKind.bits]
  omega
def Ac.lits (o : Ac) : List Lit := [.int .u32 o.nu, .int .i64 o.ca, .bool o.ki, .bool o.de]
theorem lits_ac9 (o : Ac) (ok : o.ok) : Try.prog.keyLits 3 33 (EA.cells o) = some o.lits := by
  have h0 := wf9_u32 ok.nu
  have h1 := wf9_i64 ok.ca
  have c1 : Try.prog.cellsOf 31 = 1 := by kernel_rfl
  have c2 : Try.prog.cellsOf 2 = 1 := by kernel_rfl
  have c3 : Try.prog.cellsOf 4 = 1 := by kernel_rfl
  have c5 : Try.prog.cellsOf 33 = 4 := by kernel_rfl
  simp [Program.keyLits, EA, Ac.cells, Ac.lits, c5, Try.underlying33, Try.underlying31, Try.underlying2, Try.underlying4, c1, c2, c3, h0, h1]
theorem formed_ac9 (o : Ac) : (Value.agg (EA.cells o).toArray).formed Try.prog 33 = true := by
  have c5 : Try.prog.cellsOf 33 = 4 := by kernel_rfl
  simp [Value.formed, Try.underlying33, c5, EA, Ac.cells]
theorem key_ac9 : Try.prog.keyTypeAt 3 33 = true := by kernel_rfl
theorem guard_ac9 : Try.prog.eqGuardType Try.prog.depth 33 = false := by kernel_rfl
theorem ac9_lits_inj {x y : Ac} (h : x.lits = y.lits) : x = y := by
  obtain ⟨a, b, c, d⟩ := x
  obtain ⟨a', b', c', d'⟩ := y
  simp [Ac.lits] at h
  simp [h]
open Classical in
/-- The same Bool in every world. -/
noncomputable def eqAc9 (x y : Ac) : Bool := decide (x = y)
theorem eqAc9_yes (x : Ac) : eqAc9 x x = true := by simp [eqAc9]
theorem eqAc9_no {x y : Ac} (h : x ≠ y) : eqAc9 x y = false := by simp [eqAc9, h]
theorem eqAc9_iff {x y : Ac} : eqAc9 x y = true ↔ x = y := by simp [eqAc9]
theorem eq_ac9_run (x y : Ac) (hx : x.ok) (hy : y.ok) (w : World) : (Op.equalIn 10000 33 (.agg (EA.cells x).toArray) (.agg (EA.cells y).toArray)).run Try.prog w = .ok (eqAc9 x y) w := by
  have ex : (Value.agg (EA.cells x).toArray).cells.toList = EA.cells x := by simp [Value.cells]
  have ey : (Value.agg (EA.cells y).toArray).cells.toList = EA.cells y := by simp [Value.cells]
  obtain ⟨r, h1, h2⟩ := run_equalIn_deep (P := Try.prog) 9997 3 33 key_ac9 w 3 3 (.agg (EA.cells x).toArray) (.agg (EA.cells y).toArray) x.lits y.lits (formed_ac9 x) (formed_ac9 y) (by rw [ex]; exact lits_ac9 x hx) (by rw [ey]; exact lits_ac9 y hy)
  rw [h1]
  have : r = eqAc9 x y := by
    have h3 : r = true ↔ x = y := h2.trans ⟨ac9_lits_inj, fun e => by rw [e]⟩
    by_cases c : x = y
    · rw [h3.2 c, eqAc9_iff.2 c]
    · rw [eqAc9_no c]
      cases r
      · rfl
      · exact absurd (h3.1 rfl) c
  rw [this]
theorem exec_neq_ac9 {o : Oper} {a : Act} {x y : Operand} {t2 : TypeId} (ho : o.op = .binOp .neq 33 x y t2) {u v : Ac} (hu : u.ok) (hv : v.ok) (hx : a.eval x = .agg (EA.cells u).toArray) (hy : a.eval y = .agg (EA.cells v).toArray) (w : World) :
    (execOp a.eval o).run Try.prog w = .ok (.value (.bool !(eqAc9 u v))) w := by
  unfold execOp
  simp only [ho, hx, hy, Sem.run_bind, run_eqGuard_agg w _ _ _ _ _ _ guard_ac9, Result.andThen_ok, run_neq_struct, eq_ac9_run u v hu hv w, Sem.run_pure]
theorem exec_eql_ac9 {o : Oper} {a : Act} {x y : Operand} {t2 : TypeId} (ho : o.op = .binOp .eql 33 x y t2) {u v : Ac} (hu : u.ok) (hv : v.ok) (hx : a.eval x = .agg (EA.cells u).toArray) (hy : a.eval y = .agg (EA.cells v).toArray) (w : World) :
    (execOp a.eval o).run Try.prog w = .ok (.value (.bool (eqAc9 u v))) w := by
  unfold execOp
  simp only [ho, hx, hy, Sem.run_bind, run_eqGuard_agg w _ _ _ _ _ _ guard_ac9, Result.andThen_ok, run_eql_struct, eq_ac9_run u v hu hv w, Sem.run_pure]
theorem yields_neq_ac9 {ops : Array Oper} {S : World → Prop} {o : Oper} {a : Act} (hw : Region.wanted o (yielded ops a.tmps) = true) (x y : Operand) {t2 : TypeId} (ho : o.op = .binOp .neq 33 x y t2) {u v : Ac} (hu : u.ok) (hv : v.ok) (hx : a.eval x = .agg (EA.cells u).toArray) (hy : a.eval y = .agg (EA.cells v).toArray) :
    YieldsIf Try.prog ops S o (.bool !(eqAc9 u v)) a := .inl ⟨hw, fun w _ => exec_neq_ac9 ho hu hv hx hy w⟩
theorem yields_eql_ac9 {ops : Array Oper} {S : World → Prop} {o : Oper} {a : Act} (hw : Region.wanted o (yielded ops a.tmps) = true) (x y : Operand) {t2 : TypeId} (ho : o.op = .binOp .eql 33 x y t2) {u v : Ac} (hu : u.ok) (hv : v.ok) (hx : a.eval x = .agg (EA.cells u).toArray) (hy : a.eval y = .agg (EA.cells v).toArray) :
    YieldsIf Try.prog ops S o (.bool (eqAc9 u v)) a := .inl ⟨hw, fun w _ => exec_eql_ac9 ho hu hv hx hy w⟩
section
variable {ops : Array Oper} {rest : List Oper} {a : Act} {w : World} {Q : Exit → Act → World → Prop} {d : Option Nat} {x y : Operand} {t2 ty : TypeId} {ps : String} {af : Array Edge} {gd : Option (Nat × Bool)}
theorem wl_neq_ac9 {u v : Ac} (hu : u.ok) (hv : v.ok) (hw : Region.wanted ⟨d, .binOp .neq 33 x y t2, ty, ps, af, gd⟩ (yielded ops a.tmps) = true) (hx : a.eval x = .agg (EA.cells u).toArray) (hy : a.eval y = .agg (EA.cells v).toArray)
    (h : wpList Try.prog ops Q rest (a.put d (.bool !(eqAc9 u v))) w) : wpList Try.prog ops Q (⟨d, .binOp .neq 33 x y t2, ty, ps, af, gd⟩ :: rest) a w :=
  BigFrame.wpList_want hw fun _ hK => by
    unfold Oper.wp
    rw [exec_neq_ac9 rfl hu hv hx hy w]
    exact hK _ _ h
theorem wl_eql_ac9 {u v : Ac} (hu : u.ok) (hv : v.ok) (hw : Region.wanted ⟨d, .binOp .eql 33 x y t2, ty, ps, af, gd⟩ (yielded ops a.tmps) = true) (hx : a.eval x = .agg (EA.cells u).toArray) (hy : a.eval y = .agg (EA.cells v).toArray)
    (h : wpList Try.prog ops Q rest (a.put d (.bool (eqAc9 u v))) w) : wpList Try.prog ops Q (⟨d, .binOp .eql 33 x y t2, ty, ps, af, gd⟩ :: rest) a w :=
  BigFrame.wpList_want hw fun _ hK => by
    unfold Oper.wp
    rw [exec_eql_ac9 rfl hu hv hx hy w]
    exact hK _ _ h
theorem wl_neq_ac90 {u : Ac} (hu : u.ok) (hw : Region.wanted ⟨d, .binOp .neq 33 x y t2, ty, ps, af, gd⟩ (yielded ops a.tmps) = true) (hx : a.eval x = .agg (EA.cells u).toArray) (hy : a.eval y = .agg (EA.cells u).toArray)
    (h : wpList Try.prog ops Q rest (a.put d (.bool false)) w) : wpList Try.prog ops Q (⟨d, .binOp .neq 33 x y t2, ty, ps, af, gd⟩ :: rest) a w :=
  wl_neq_ac9 hu hu hw hx hy (by rw [eqAc9_yes]; exact h)
theorem wl_eql_ac90 {u : Ac} (hu : u.ok) (hw : Region.wanted ⟨d, .binOp .eql 33 x y t2, ty, ps, af, gd⟩ (yielded ops a.tmps) = true) (hx : a.eval x = .agg (EA.cells u).toArray) (hy : a.eval y = .agg (EA.cells u).toArray)
    (h : wpList Try.prog ops Q rest (a.put d (.bool true)) w) : wpList Try.prog ops Q (⟨d, .binOp .eql 33 x y t2, ty, ps, af, gd⟩ :: rest) a w :=
  wl_eql_ac9 hu hu hw hx hy (by rw [eqAc9_yes]; exact h)
end
def Po.lits (o : Po) : List Lit := [.int .u32 o.co, .int .u32 o.ac, .int .i64 o.q, .int .i64 o.b]
theorem lits_po9 (o : Po) (ok : o.ok) : Try.prog.keyLits 3 47 (EP.cells o) = some o.lits := by
  have h0 := wf9_u32 ok.co
  have h1 := wf9_u32 ok.ac
  have h2 := wf9_i64 ok.q
  have h3 := wf9_i64 ok.b
  have c1 : Try.prog.cellsOf 31 = 1 := by kernel_rfl
  have c2 : Try.prog.cellsOf 2 = 1 := by kernel_rfl
  have c3 : Try.prog.cellsOf 4 = 1 := by kernel_rfl
  have c5 : Try.prog.cellsOf 47 = 4 := by kernel_rfl
  simp [Program.keyLits, EP, Po.cells, Po.lits, c5, Try.underlying47, Try.underlying31, Try.underlying2, Try.underlying4, c1, c2, c3, h0, h1, h2, h3]
theorem formed_po9 (o : Po) : (Value.agg (EP.cells o).toArray).formed Try.prog 47 = true := by
  have c5 : Try.prog.cellsOf 47 = 4 := by kernel_rfl
  simp [Value.formed, Try.underlying47, c5, EP, Po.cells]
theorem key_po9 : Try.prog.keyTypeAt 3 47 = true := by kernel_rfl
theorem guard_po9 : Try.prog.eqGuardType Try.prog.depth 47 = false := by kernel_rfl
theorem po9_lits_inj {x y : Po} (h : x.lits = y.lits) : x = y := by
  obtain ⟨a, b, c, d⟩ := x
  obtain ⟨a', b', c', d'⟩ := y
  simp [Po.lits] at h
  simp [h]
open Classical in
/-- The same Bool in every world. -/
noncomputable def eqPo9 (x y : Po) : Bool := decide (x = y)
theorem eqPo9_yes (x : Po) : eqPo9 x x = true := by simp [eqPo9]
theorem eqPo9_no {x y : Po} (h : x ≠ y) : eqPo9 x y = false := by simp [eqPo9, h]
theorem eqPo9_iff {x y : Po} : eqPo9 x y = true ↔ x = y := by simp [eqPo9]
theorem eq_po9_run (x y : Po) (hx : x.ok) (hy : y.ok) (w : World) : (Op.equalIn 10000 47 (.agg (EP.cells x).toArray) (.agg (EP.cells y).toArray)).run Try.prog w = .ok (eqPo9 x y) w := by
  have ex : (Value.agg (EP.cells x).toArray).cells.toList = EP.cells x := by simp [Value.cells]
  have ey : (Value.agg (EP.cells y).toArray).cells.toList = EP.cells y := by simp [Value.cells]
  obtain ⟨r, h1, h2⟩ := run_equalIn_deep (P := Try.prog) 9997 3 47 key_po9 w 3 3 (.agg (EP.cells x).toArray) (.agg (EP.cells y).toArray) x.lits y.lits (formed_po9 x) (formed_po9 y) (by rw [ex]; exact lits_po9 x hx) (by rw [ey]; exact lits_po9 y hy)
  rw [h1]
  have : r = eqPo9 x y := by
    have h3 : r = true ↔ x = y := h2.trans ⟨po9_lits_inj, fun e => by rw [e]⟩
    by_cases c : x = y
    · rw [h3.2 c, eqPo9_iff.2 c]
    · rw [eqPo9_no c]
      cases r
      · rfl
      · exact absurd (h3.1 rfl) c
  rw [this]
theorem exec_neq_po9 {o : Oper} {a : Act} {x y : Operand} {t2 : TypeId} (ho : o.op = .binOp .neq 47 x y t2) {u v : Po} (hu : u.ok) (hv : v.ok) (hx : a.eval x = .agg (EP.cells u).toArray) (hy : a.eval y = .agg (EP.cells v).toArray) (w : World) :
    (execOp a.eval o).run Try.prog w = .ok (.value (.bool !(eqPo9 u v))) w := by
  unfold execOp
  simp only [ho, hx, hy, Sem.run_bind, run_eqGuard_agg w _ _ _ _ _ _ guard_po9, Result.andThen_ok, run_neq_struct, eq_po9_run u v hu hv w, Sem.run_pure]
theorem exec_eql_po9 {o : Oper} {a : Act} {x y : Operand} {t2 : TypeId} (ho : o.op = .binOp .eql 47 x y t2) {u v : Po} (hu : u.ok) (hv : v.ok) (hx : a.eval x = .agg (EP.cells u).toArray) (hy : a.eval y = .agg (EP.cells v).toArray) (w : World) :
    (execOp a.eval o).run Try.prog w = .ok (.value (.bool (eqPo9 u v))) w := by
  unfold execOp
  simp only [ho, hx, hy, Sem.run_bind, run_eqGuard_agg w _ _ _ _ _ _ guard_po9, Result.andThen_ok, run_eql_struct, eq_po9_run u v hu hv w, Sem.run_pure]
theorem yields_neq_po9 {ops : Array Oper} {S : World → Prop} {o : Oper} {a : Act} (hw : Region.wanted o (yielded ops a.tmps) = true) (x y : Operand) {t2 : TypeId} (ho : o.op = .binOp .neq 47 x y t2) {u v : Po} (hu : u.ok) (hv : v.ok) (hx : a.eval x = .agg (EP.cells u).toArray) (hy : a.eval y = .agg (EP.cells v).toArray) :
    YieldsIf Try.prog ops S o (.bool !(eqPo9 u v)) a := .inl ⟨hw, fun w _ => exec_neq_po9 ho hu hv hx hy w⟩
theorem yields_eql_po9 {ops : Array Oper} {S : World → Prop} {o : Oper} {a : Act} (hw : Region.wanted o (yielded ops a.tmps) = true) (x y : Operand) {t2 : TypeId} (ho : o.op = .binOp .eql 47 x y t2) {u v : Po} (hu : u.ok) (hv : v.ok) (hx : a.eval x = .agg (EP.cells u).toArray) (hy : a.eval y = .agg (EP.cells v).toArray) :
    YieldsIf Try.prog ops S o (.bool (eqPo9 u v)) a := .inl ⟨hw, fun w _ => exec_eql_po9 ho hu hv hx hy w⟩
section
variable {ops : Array Oper} {rest : List Oper} {a : Act} {w : World} {Q : Exit → Act → World → Prop} {d : Option Nat} {x y : Operand} {t2 ty : TypeId} {ps : String} {af : Array Edge} {gd : Option (Nat × Bool)}
theorem wl_neq_po9 {u v : Po} (hu : u.ok) (hv : v.ok) (hw : Region.wanted ⟨d, .binOp .neq 47 x y t2, ty, ps, af, gd⟩ (yielded ops a.tmps) = true) (hx : a.eval x = .agg (EP.cells u).toArray) (hy : a.eval y = .agg (EP.cells v).toArray)
    (h : wpList Try.prog ops Q rest (a.put d (.bool !(eqPo9 u v))) w) : wpList Try.prog ops Q (⟨d, .binOp .neq 47 x y t2, ty, ps, af, gd⟩ :: rest) a w :=
  BigFrame.wpList_want hw fun _ hK => by
    unfold Oper.wp
    rw [exec_neq_po9 rfl hu hv hx hy w]
    exact hK _ _ h
theorem wl_eql_po9 {u v : Po} (hu : u.ok) (hv : v.ok) (hw : Region.wanted ⟨d, .binOp .eql 47 x y t2, ty, ps, af, gd⟩ (yielded ops a.tmps) = true) (hx : a.eval x = .agg (EP.cells u).toArray) (hy : a.eval y = .agg (EP.cells v).toArray)
    (h : wpList Try.prog ops Q rest (a.put d (.bool (eqPo9 u v))) w) : wpList Try.prog ops Q (⟨d, .binOp .eql 47 x y t2, ty, ps, af, gd⟩ :: rest) a w :=
  BigFrame.wpList_want hw fun _ hK => by
    unfold Oper.wp
    rw [exec_eql_po9 rfl hu hv hx hy w]
    exact hK _ _ h
theorem wl_neq_po90 {u : Po} (hu : u.ok) (hw : Region.wanted ⟨d, .binOp .neq 47 x y t2, ty, ps, af, gd⟩ (yielded ops a.tmps) = true) (hx : a.eval x = .agg (EP.cells u).toArray) (hy : a.eval y = .agg (EP.cells u).toArray)
    (h : wpList Try.prog ops Q rest (a.put d (.bool false)) w) : wpList Try.prog ops Q (⟨d, .binOp .neq 47 x y t2, ty, ps, af, gd⟩ :: rest) a w :=
  wl_neq_po9 hu hu hw hx hy (by rw [eqPo9_yes]; exact h)
theorem wl_eql_po90 {u : Po} (hu : u.ok) (hw : Region.wanted ⟨d, .binOp .eql 47 x y t2, ty, ps, af, gd⟩ (yielded ops a.tmps) = true) (hx : a.eval x = .agg (EP.cells u).toArray) (hy : a.eval y = .agg (EP.cells u).toArray)
    (h : wpList Try.prog ops Q rest (a.put d (.bool true)) w) : wpList Try.prog ops Q (⟨d, .binOp .eql 47 x y t2, ty, ps, af, gd⟩ :: rest) a w :=
  wl_eql_po9 hu hu hw hx hy (by rw [eqPo9_yes]; exact h)
end
def Va.lits (o : Va) : List Lit := [.int .u32 o.ac, .int .i64 o.v]
theorem lits_va9 (o : Va) (ok : o.ok) : Try.prog.keyLits 3 62 (EV.cells o) = some o.lits := by
  have h0 := wf9_u32 ok.ac
  have h1 := wf9_i64 ok.v
  have c1 : Try.prog.cellsOf 31 = 1 := by kernel_rfl
  have c2 : Try.prog.cellsOf 2 = 1 := by kernel_rfl
  have c3 : Try.prog.cellsOf 4 = 1 := by kernel_rfl
  have c5 : Try.prog.cellsOf 62 = 2 := by kernel_rfl
  simp [Program.keyLits, EV, Va.cells, Va.lits, c5, Try.underlying62, Try.underlying31, Try.underlying2, Try.underlying4, c1, c2, c3, h0, h1]
theorem formed_va9 (o : Va) : (Value.agg (EV.cells o).toArray).formed Try.prog 62 = true := by
  have c5 : Try.prog.cellsOf 62 = 2 := by kernel_rfl
  simp [Value.formed, Try.underlying62, c5, EV, Va.cells]
theorem key_va9 : Try.prog.keyTypeAt 3 62 = true := by kernel_rfl
theorem guard_va9 : Try.prog.eqGuardType Try.prog.depth 62 = false := by kernel_rfl
theorem va9_lits_inj {x y : Va} (h : x.lits = y.lits) : x = y := by
  obtain ⟨a, b⟩ := x
  obtain ⟨a', b'⟩ := y
  simp [Va.lits] at h
  simp [h]
open Classical in
/-- The same Bool in every world. -/
noncomputable def eqVa9 (x y : Va) : Bool := decide (x = y)
theorem eqVa9_yes (x : Va) : eqVa9 x x = true := by simp [eqVa9]
theorem eqVa9_no {x y : Va} (h : x ≠ y) : eqVa9 x y = false := by simp [eqVa9, h]
theorem eqVa9_iff {x y : Va} : eqVa9 x y = true ↔ x = y := by simp [eqVa9]
theorem eq_va9_run (x y : Va) (hx : x.ok) (hy : y.ok) (w : World) : (Op.equalIn 10000 62 (.agg (EV.cells x).toArray) (.agg (EV.cells y).toArray)).run Try.prog w = .ok (eqVa9 x y) w := by
  have ex : (Value.agg (EV.cells x).toArray).cells.toList = EV.cells x := by simp [Value.cells]
  have ey : (Value.agg (EV.cells y).toArray).cells.toList = EV.cells y := by simp [Value.cells]
  obtain ⟨r, h1, h2⟩ := run_equalIn_deep (P := Try.prog) 9997 3 62 key_va9 w 3 3 (.agg (EV.cells x).toArray) (.agg (EV.cells y).toArray) x.lits y.lits (formed_va9 x) (formed_va9 y) (by rw [ex]; exact lits_va9 x hx) (by rw [ey]; exact lits_va9 y hy)
  rw [h1]
  have : r = eqVa9 x y := by
    have h3 : r = true ↔ x = y := h2.trans ⟨va9_lits_inj, fun e => by rw [e]⟩
    by_cases c : x = y
    · rw [h3.2 c, eqVa9_iff.2 c]
    · rw [eqVa9_no c]
      cases r
      · rfl
      · exact absurd (h3.1 rfl) c
  rw [this]
theorem exec_neq_va9 {o : Oper} {a : Act} {x y : Operand} {t2 : TypeId} (ho : o.op = .binOp .neq 62 x y t2) {u v : Va} (hu : u.ok) (hv : v.ok) (hx : a.eval x = .agg (EV.cells u).toArray) (hy : a.eval y = .agg (EV.cells v).toArray) (w : World) :
    (execOp a.eval o).run Try.prog w = .ok (.value (.bool !(eqVa9 u v))) w := by
  unfold execOp
  simp only [ho, hx, hy, Sem.run_bind, run_eqGuard_agg w _ _ _ _ _ _ guard_va9, Result.andThen_ok, run_neq_struct, eq_va9_run u v hu hv w, Sem.run_pure]
theorem exec_eql_va9 {o : Oper} {a : Act} {x y : Operand} {t2 : TypeId} (ho : o.op = .binOp .eql 62 x y t2) {u v : Va} (hu : u.ok) (hv : v.ok) (hx : a.eval x = .agg (EV.cells u).toArray) (hy : a.eval y = .agg (EV.cells v).toArray) (w : World) :
    (execOp a.eval o).run Try.prog w = .ok (.value (.bool (eqVa9 u v))) w := by
  unfold execOp
  simp only [ho, hx, hy, Sem.run_bind, run_eqGuard_agg w _ _ _ _ _ _ guard_va9, Result.andThen_ok, run_eql_struct, eq_va9_run u v hu hv w, Sem.run_pure]
theorem yields_neq_va9 {ops : Array Oper} {S : World → Prop} {o : Oper} {a : Act} (hw : Region.wanted o (yielded ops a.tmps) = true) (x y : Operand) {t2 : TypeId} (ho : o.op = .binOp .neq 62 x y t2) {u v : Va} (hu : u.ok) (hv : v.ok) (hx : a.eval x = .agg (EV.cells u).toArray) (hy : a.eval y = .agg (EV.cells v).toArray) :
    YieldsIf Try.prog ops S o (.bool !(eqVa9 u v)) a := .inl ⟨hw, fun w _ => exec_neq_va9 ho hu hv hx hy w⟩
theorem yields_eql_va9 {ops : Array Oper} {S : World → Prop} {o : Oper} {a : Act} (hw : Region.wanted o (yielded ops a.tmps) = true) (x y : Operand) {t2 : TypeId} (ho : o.op = .binOp .eql 62 x y t2) {u v : Va} (hu : u.ok) (hv : v.ok) (hx : a.eval x = .agg (EV.cells u).toArray) (hy : a.eval y = .agg (EV.cells v).toArray) :
    YieldsIf Try.prog ops S o (.bool (eqVa9 u v)) a := .inl ⟨hw, fun w _ => exec_eql_va9 ho hu hv hx hy w⟩
section
variable {ops : Array Oper} {rest : List Oper} {a : Act} {w : World} {Q : Exit → Act → World → Prop} {d : Option Nat} {x y : Operand} {t2 ty : TypeId} {ps : String} {af : Array Edge} {gd : Option (Nat × Bool)}
theorem wl_neq_va9 {u v : Va} (hu : u.ok) (hv : v.ok) (hw : Region.wanted ⟨d, .binOp .neq 62 x y t2, ty, ps, af, gd⟩ (yielded ops a.tmps) = true) (hx : a.eval x = .agg (EV.cells u).toArray) (hy : a.eval y = .agg (EV.cells v).toArray)
    (h : wpList Try.prog ops Q rest (a.put d (.bool !(eqVa9 u v))) w) : wpList Try.prog ops Q (⟨d, .binOp .neq 62 x y t2, ty, ps, af, gd⟩ :: rest) a w :=
  BigFrame.wpList_want hw fun _ hK => by
    unfold Oper.wp
    rw [exec_neq_va9 rfl hu hv hx hy w]
    exact hK _ _ h
theorem wl_eql_va9 {u v : Va} (hu : u.ok) (hv : v.ok) (hw : Region.wanted ⟨d, .binOp .eql 62 x y t2, ty, ps, af, gd⟩ (yielded ops a.tmps) = true) (hx : a.eval x = .agg (EV.cells u).toArray) (hy : a.eval y = .agg (EV.cells v).toArray)
    (h : wpList Try.prog ops Q rest (a.put d (.bool (eqVa9 u v))) w) : wpList Try.prog ops Q (⟨d, .binOp .eql 62 x y t2, ty, ps, af, gd⟩ :: rest) a w :=
  BigFrame.wpList_want hw fun _ hK => by
    unfold Oper.wp
    rw [exec_eql_va9 rfl hu hv hx hy w]
    exact hK _ _ h
theorem wl_neq_va90 {u : Va} (hu : u.ok) (hw : Region.wanted ⟨d, .binOp .neq 62 x y t2, ty, ps, af, gd⟩ (yielded ops a.tmps) = true) (hx : a.eval x = .agg (EV.cells u).toArray) (hy : a.eval y = .agg (EV.cells u).toArray)
    (h : wpList Try.prog ops Q rest (a.put d (.bool false)) w) : wpList Try.prog ops Q (⟨d, .binOp .neq 62 x y t2, ty, ps, af, gd⟩ :: rest) a w :=
  wl_neq_va9 hu hu hw hx hy (by rw [eqVa9_yes]; exact h)
theorem wl_eql_va90 {u : Va} (hu : u.ok) (hw : Region.wanted ⟨d, .binOp .eql 62 x y t2, ty, ps, af, gd⟩ (yielded ops a.tmps) = true) (hx : a.eval x = .agg (EV.cells u).toArray) (hy : a.eval y = .agg (EV.cells u).toArray)
    (h : wpList Try.prog ops Q rest (a.put d (.bool true)) w) : wpList Try.prog ops Q (⟨d, .binOp .eql 62 x y t2, ty, ps, af, gd⟩ :: rest) a w :=
  wl_eql_va9 hu hu hw hx hy (by rw [eqVa9_yes]; exact h)
end
end Go.Proofs.Ythnmpnepgagmmaa
