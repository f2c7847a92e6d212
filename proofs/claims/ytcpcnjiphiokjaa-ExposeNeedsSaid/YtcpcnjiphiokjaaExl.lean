/- Legs compared as Go compares structs (out of XTl). -/
import Derived.Test.YtcpcnjiphiokjaaTa
import Derived.Test.YtcpcnjiphiokjaaQe
import Derived.Deep.RegionHeld
namespace Go.Proofs.Ytcpcnjiphiokjaa
open Go.RowKit
set_option linter.unusedVariables false
set_option linter.unusedSimpArgs false

def Lq.lits (x : Lq) : List Lit := x.sp.lits ++ [.int .i64 x.q]
theorem lits_lq10 (c : Lq) (h : c.ok) : Try.prog.keyLits 4 30 (EL.cells c) = some c.lits := by
  have h10 := wf_i64 h.q
  have hl := sp_lenL c.len
  have inner := lits_sp c.sp h.sp
  have t0 : (c.sp.cellL ++ [Value.int .i64 c.q]).take 25 = c.sp.cellL := by rw [← hl]; exact List.take_left' rfl
  have t1 : (c.sp.cellL ++ [Value.int .i64 c.q]).drop 25 = [.int .i64 c.q] := by rw [← hl]; exact List.drop_left' rfl
  have c25 : Try.prog.cellsOf 28 = 25 := by kernel_rfl
  have c2 : Try.prog.cellsOf 2 = 1 := by kernel_rfl
  have c27 : Try.prog.cellsOf 30 = 26 := by kernel_rfl
  have k2 : Try.prog.keyLits 3 2 [.int .i64 c.q] = some [.int .i64 c.q] := by simp [Program.keyLits, Try.underlying2, h10]
  unfold Program.keyLits
  show (match Try.prog.underlying 30 with | _ => _) = _
  unfold EL
  dsimp only
  unfold Lq.cells
  simp [Try.underlying30, c25, c2, t0, t1, inner, k2, hl, c27, Lq.lits]
theorem formed_lq10 (c : Lq) : (Value.agg (EL.cells c).toArray).formed Try.prog 30 = true := by
  have c27 : Try.prog.cellsOf 30 = 26 := by kernel_rfl
  have e : (EL.cells c).toArray.size = 26 := by rw [List.size_toArray]; exact EL.len c
  simp [Value.formed, Try.underlying30, c27]
  exact EL.len c
theorem key_lq10 : Try.prog.keyTypeAt 4 30 = true := by kernel_rfl
theorem guard_lq10 : Try.prog.eqGuardType Try.prog.depth 30 = false := by kernel_rfl
theorem same_lq10 (x : Lq) (hx : x.ok) (w : World) : (Op.equalIn 10000 30 (.agg (EL.cells x).toArray) (.agg (EL.cells x).toArray)).run Try.prog w = .ok true w := by
  have ex : (Value.agg (EL.cells x).toArray).cells.toList = EL.cells x := by simp [Value.cells]
  obtain ⟨r, h1, h2⟩ := run_equalIn_deep (P := Try.prog) 9996 4 30 key_lq10 w 4 4 (.agg (EL.cells x).toArray) (.agg (EL.cells x).toArray) x.lits x.lits (formed_lq10 x) (formed_lq10 x) (by rw [ex]; exact lits_lq10 x hx) (by rw [ex]; exact lits_lq10 x hx)
  rw [h2.2 rfl] at h1
  exact h1
theorem exec_neq10 {o : Oper} {a : Act} {x y : Operand} {t2 : TypeId} (ho : o.op = .binOp .neq 30 x y t2) {s : Lq} (ok : s.ok) (hx : a.eval x = .agg (EL.cells s).toArray) (hy : a.eval y = .agg (EL.cells s).toArray) (w : World) :
    (execOp a.eval o).run Try.prog w = .ok (.value (.bool false)) w := by
  unfold execOp
  simp only [ho, hx, hy, Sem.run_bind, run_eqGuard_agg w _ _ _ _ _ _ guard_lq10, Result.andThen_ok, run_neq_struct, same_lq10 s ok w, Sem.run_pure, Bool.not_true]
theorem yields_neq10 {ops : Array Oper} {S : World → Prop} {o : Oper} {a : Act} (hw : Region.wanted o (yielded ops a.tmps) = true) (x y : Operand) {t2 : TypeId} (ho : o.op = .binOp .neq 30 x y t2) {s : Lq} (ok : s.ok) (hx : a.eval x = .agg (EL.cells s).toArray) (hy : a.eval y = .agg (EL.cells s).toArray) :
    YieldsIf Try.prog ops S o (.bool false) a := .inl ⟨hw, fun w _ => exec_neq10 ho ok hx hy w⟩
end Go.Proofs.Ytcpcnjiphiokjaa
