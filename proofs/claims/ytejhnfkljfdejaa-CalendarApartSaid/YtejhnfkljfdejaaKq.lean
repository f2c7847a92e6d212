/- Two contracts, or their data, compared as Go compares structs; no program's function. -/
import Derived.Test.YtejhnfkljfdejaaKd
import Derived.Test.YtejhnfkljfdejaaQe
import Derived.Test.YtejhnfkljfdejaaKb
namespace Go.Proofs.Ytejhnfkljfdejaa
open Go.RowKit

def Ct.lits (c : Ct) : List Lit := c.sp.lits ++ [.int .u8 c.st, .int .i64 c.pr]
theorem lits_ct (c : Ct) (h : c.ok) : Try.prog.keyLits 4 45 c.cellL = some c.lits := by
  have h9 := wf_u8 h.st
  have h10 := wf_i64 h.pr
  have hl := Sp.lenL h.sp.len
  have inner := lits_sp c.sp h.sp
  have t0 : (c.sp.cellL ++ [Value.int .u8 c.st, .int .i64 c.pr]).take 25 = c.sp.cellL := by rw [← hl]; exact List.take_left' rfl
  have t1 : (c.sp.cellL ++ [Value.int .u8 c.st, .int .i64 c.pr]).drop 25 = [.int .u8 c.st, .int .i64 c.pr] := by rw [← hl]; exact List.drop_left' rfl
  have t2 : (c.sp.cellL ++ [Value.int .u8 c.st, .int .i64 c.pr]).drop 26 = [.int .i64 c.pr] := by rw [show 26 = 25 + 1 from rfl, ← List.drop_drop, t1]; rfl
  have c25 : Try.prog.cellsOf 33 = 25 := by kernel_rfl
  have c2 : Try.prog.cellsOf 2 = 1 := by kernel_rfl
  have c43 : Try.prog.cellsOf 43 = 1 := by kernel_rfl
  have c27 : Try.prog.cellsOf 45 = 27 := by kernel_rfl
  have k1 : Try.prog.keyLits 3 43 [.int .u8 c.st] = some [.int .u8 c.st] := by simp [Program.keyLits, Try.underlying43, h9]
  have k2 : Try.prog.keyLits 3 2 [.int .i64 c.pr] = some [.int .i64 c.pr] := by simp [Program.keyLits, Try.underlying2, h10]
  unfold Program.keyLits
  unfold Ct.cellL
  simp [Try.underlying45, c25, c2, c43, t0, t1, t2, inner, k1, k2, hl, c27, Ct.lits]
theorem formed_ct (c : Ct) (h : c.sp.sh.length = 16) : (Value.agg c.cells).formed Try.prog 45 = true := by
  have c27 : Try.prog.cellsOf 45 = 27 := by kernel_rfl
  simp [Value.formed, Try.underlying45, Ct.size h, c27]
theorem key_ct : Try.prog.keyTypeAt 4 45 = true := by kernel_rfl
theorem guard_ct : Try.prog.eqGuardType Try.prog.depth 45 = false := by kernel_rfl
theorem sp_lits_inj {s t : Sp} (hs : s.sh.length = 16) (ht : t.sh.length = 16) (h : s.lits = t.lits) : s = t := by
  obtain ⟨nu, ro, ti, lo, ba, li, sh, cr, la, fi⟩ := s
  obtain ⟨nu', ro', ti', lo', ba', li', sh', cr', la', fi'⟩ := t
  obtain ⟨a, b, c, d, e, f, g, i, j, k, m, n, o, p, q, r, rfl⟩ := sixteen hs
  obtain ⟨a', b', c', d', e', f', g', i', j', k', m', n', o', p', q', r', rfl⟩ := sixteen ht
  simp [Sp.lits] at h
  simp [h]
theorem sp_lits_len {s : Sp} (hs : s.sh.length = 16) : s.lits.length = 25 := by simp [Sp.lits, hs]
theorem ct_lits_inj {x y : Ct} (hx : x.sp.sh.length = 16) (hy : y.sp.sh.length = 16) (h : x.lits = y.lits) : x = y := by
  obtain ⟨s, a, b⟩ := x
  obtain ⟨t, c, d⟩ := y
  unfold Ct.lits at h
  dsimp only at h
  obtain ⟨h1, h2⟩ := List.append_inj h (by rw [sp_lits_len hx, sp_lits_len hy])
  have e := sp_lits_inj hx hy h1
  simp at h2
  obtain ⟨e1, e2⟩ := h2
  subst e e1 e2
  rfl
theorem same_ct (x y : Ct) (hx : x.ok) (hy : y.ok) (w : World) : ∃ r : Bool, (Op.equalIn 10000 45 (.agg x.cells) (.agg y.cells)).run Try.prog w = .ok r w ∧ (r = true ↔ x = y) := by
  have ex : (Value.agg x.cells).cells.toList = x.cellL := by simp [Value.cells, Ct.cells]
  have ey : (Value.agg y.cells).cells.toList = y.cellL := by simp [Value.cells, Ct.cells]
  obtain ⟨r, h1, h2⟩ := run_equalIn_deep (P := Try.prog) 9996 4 45 key_ct w 4 4 (.agg x.cells) (.agg y.cells) x.lits y.lits (formed_ct x hx.sp.len) (formed_ct y hy.sp.len) (by rw [ex]; exact lits_ct x hx) (by rw [ey]; exact lits_ct y hy)
  exact ⟨r, h1, h2.trans ⟨ct_lits_inj hx.sp.len hy.sp.len, fun e => by rw [e]⟩⟩
theorem same_sp2 (x y : Sp) (hx : x.ok) (hy : y.ok) (w : World) : ∃ r : Bool, (Op.equalIn 10000 33 (.agg x.cells) (.agg y.cells)).run Try.prog w = .ok r w ∧ (r = true ↔ x = y) := by
  have ex : (Value.agg x.cells).cells.toList = x.cellL := by simp [Value.cells, Sp.cells]
  have ey : (Value.agg y.cells).cells.toList = y.cellL := by simp [Value.cells, Sp.cells]
  obtain ⟨r, h1, h2⟩ := run_equalIn_deep (P := Try.prog) 9997 3 33 key_sp w 3 3 (.agg x.cells) (.agg y.cells) x.lits y.lits (formed_sp x hx.len) (formed_sp y hy.len) (by rw [ex]; exact lits_sp x hx) (by rw [ey]; exact lits_sp y hy)
  exact ⟨r, h1, h2.trans ⟨sp_lits_inj hx.len hy.len, fun e => by rw [e]⟩⟩
open Classical in
/-- The same Bool in every world. -/
noncomputable def eqB (x y : Ct) : Bool := decide (x = y)
open Classical in
noncomputable def eqS (x y : Sp) : Bool := decide (x = y)
open Classical in
theorem eq_ct_run (x y : Ct) (hx : x.ok) (hy : y.ok) (w : World) : (Op.equalIn 10000 45 (.agg x.cells) (.agg y.cells)).run Try.prog w = .ok (eqB x y) w := by
  obtain ⟨r, h1, h2⟩ := same_ct x y hx hy w
  rw [h1]
  have : r = eqB x y := by
    unfold eqB
    by_cases c : x = y
    · rw [decide_eq_true c, h2.2 c]
    · rw [decide_eq_false c]
      cases r
      · rfl
      · exact absurd (h2.1 rfl) c
  rw [this]
open Classical in
theorem eq_sp_run (x y : Sp) (hx : x.ok) (hy : y.ok) (w : World) : (Op.equalIn 10000 33 (.agg x.cells) (.agg y.cells)).run Try.prog w = .ok (eqS x y) w := by
  obtain ⟨r, h1, h2⟩ := same_sp2 x y hx hy w
  rw [h1]
  have : r = eqS x y := by
    unfold eqS
    by_cases c : x = y
    · rw [decide_eq_true c, h2.2 c]
    · rw [decide_eq_false c]
      cases r
      · rfl
      · exact absurd (h2.1 rfl) c
  rw [this]
theorem eqB_yes (x : Ct) : eqB x x = true := by simp [eqB]
theorem eqB_no {x y : Ct} (h : x ≠ y) : eqB x y = false := by simp [eqB, h]
theorem eqS_yes (x : Sp) : eqS x x = true := by simp [eqS]
theorem eqS_no {x y : Sp} (h : x ≠ y) : eqS x y = false := by simp [eqS, h]
/-- What '==', '!=' answer. -/
def asks (op : BinOp) (b : Bool) : Bool := match op with | .eql => b | _ => !b
theorem exec_ct {o : Oper} {a : Act} {x y : Operand} {t2 : TypeId} {op : BinOp} (hop : op = .eql ∨ op = .neq) (ho : o.op = .binOp op 45 x y t2) {u v : Ct} (hu : u.ok) (hv : v.ok) (hx : a.eval x = .agg u.cells) (hy : a.eval y = .agg v.cells) (w : World) :
    (execOp a.eval o).run Try.prog w = .ok (.value (.bool (asks op (eqB u v)))) w := by
  unfold execOp
  rcases hop with rfl | rfl
  · simp only [ho, hx, hy, Sem.run_bind, run_eqGuard_agg w _ _ _ _ _ _ guard_ct, Result.andThen_ok, run_eql_struct, eq_ct_run u v hu hv w, Sem.run_pure, asks]
  · simp only [ho, hx, hy, Sem.run_bind, run_eqGuard_agg w _ _ _ _ _ _ guard_ct, Result.andThen_ok, run_neq_struct, eq_ct_run u v hu hv w, Sem.run_pure, asks]
theorem exec_sp {o : Oper} {a : Act} {x y : Operand} {t2 : TypeId} {op : BinOp} (hop : op = .eql ∨ op = .neq) (ho : o.op = .binOp op 33 x y t2) {u v : Sp} (hu : u.ok) (hv : v.ok) (hx : a.eval x = .agg u.cells) (hy : a.eval y = .agg v.cells) (w : World) :
    (execOp a.eval o).run Try.prog w = .ok (.value (.bool (asks op (eqS u v)))) w := by
  unfold execOp
  rcases hop with rfl | rfl
  · simp only [ho, hx, hy, Sem.run_bind, run_eqGuard_agg w _ _ _ _ _ _ guard_sp, Result.andThen_ok, run_eql_struct, eq_sp_run u v hu hv w, Sem.run_pure, asks]
  · simp only [ho, hx, hy, Sem.run_bind, run_eqGuard_agg w _ _ _ _ _ _ guard_sp, Result.andThen_ok, run_neq_struct, eq_sp_run u v hu hv w, Sem.run_pure, asks]
end Go.Proofs.Ytejhnfkljfdejaa
