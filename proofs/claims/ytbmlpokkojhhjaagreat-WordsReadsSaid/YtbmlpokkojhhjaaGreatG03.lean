/- Texts of a proof, laid together: Qe, Wdf, Ro, Wdr, Wdk, Wdg. -/
import Derived.DeepKeys
import Derived.Laws.StructEq
import Derived.OpenShut
import Derived.ProofKit
import Derived.Deep.Slices
import Derived.Deep.MidRow
import Derived.Maps.AppendAt
import Derived.Test.YtbmlpokkojhhjaaGreatProg
import Derived.Laws.Tables
import Derived.Test.YtbmlpokkojhhjaaGreatG02
import Derived.Test.YtbmlpokkojhhjaaGreatG01
/- A contract's data are the same as themselves, as Go compares structs; no program's function. -/
namespace Go.Proofs.YtbmlpokkojhhjaaGreat
open Go.RowKit

def Sp.lits (s : Sp) : List Lit := [.int .u32 s.nu, .int .u8 s.ro, .int .i64 s.ti, .int .i64 s.lo, .int .i64 s.ba, .int .i64 s.li] ++ (s.sh.map (Lit.int .i64) ++ [.int .i64 s.cr, .int .u32 s.la, .int .i64 s.fi])
theorem wf_i64 {x : Int} (h : I64 x) : (Lit.int .i64 x).wf = true := by
  obtain ⟨h1, h2⟩ := h
  simp [Lit.wf, IntKind.min, IntKind.max, IntKind.signed, IntKind.bits]
  omega
theorem wf_u32 {x : Int} (h : 0 ≤ x ∧ x ≤ 4294967295) : (Lit.int .u32 x).wf = true := by
  simp [Lit.wf, IntKind.min, IntKind.max, IntKind.signed, IntKind.bits]
  omega
theorem wf_u8 {x : Int} (h : 0 ≤ x ∧ x ≤ 255) : (Lit.int .u8 x).wf = true := by
  simp [Lit.wf, IntKind.min, IntKind.max, IntKind.signed, IntKind.bits]
  omega
theorem lits_sp (s : Sp) (ok : s.ok) : Tryz.prog.keyLits 3 29 s.cellL = some s.lits := by
  obtain ⟨nu, ro, ti, lo, ba, li, sh, cr, la, fi⟩ := s
  have h0 := wf_u32 ok.nu
  have h1 := wf_u8 ok.ro
  have h2 := wf_i64 ok.ti
  have h3 := wf_i64 ok.lo
  have h4 := wf_i64 ok.ba
  have h5 := wf_i64 ok.li
  have h6 := wf_i64 ok.cr
  have h7 := wf_u32 ok.la
  have h8 := wf_i64 ok.fi
  have hs : ∀ x, x ∈ sh → (Lit.int .i64 x).wf = true := fun x hx => wf_i64 (ok.sh x hx)
  have hl := ok.len
  dsimp only at h0 h1 h2 h3 h4 h5 h6 h7 h8 hl
  clear ok
  match sh, hl, hs with
  | [x0, x1, x2, x3, x4, x5, x6, x7, x8, x9, x10, x11, x12, x13, x14, x15], _, hs =>
    simp only [List.forall_mem_cons] at hs
    obtain ⟨g0, g1, g2, g3, g4, g5, g6, g7, g8, g9, g10, g11, g12, g13, g14, g15, _⟩ := hs
    have c25 : Tryz.prog.cellsOf 29 = 25 := by kernel_rfl
    have c22 : Tryz.prog.cellsOf 25 = 1 := by kernel_rfl
    have c5 : Tryz.prog.cellsOf 5 = 1 := by kernel_rfl
    have c2 : Tryz.prog.cellsOf 2 = 1 := by kernel_rfl
    have c23 : Tryz.prog.cellsOf 27 = 16 := by kernel_rfl
    have r16 : List.range 16 = [0, 1, 2, 3, 4, 5, 6, 7, 8, 9, 10, 11, 12, 13, 14, 15] := by decide
    simp [Program.keyLits, Sp.cellL, Sp.lits, Tryz.underlying29, Tryz.underlying25, Tryz.underlying5, Tryz.underlying2, Tryz.underlying27, c25, c22, c5, c2, c23, r16, h0, h1, h2, h3, h4, h5, h6, h7, h8, g0, g1, g2, g3, g4, g5, g6, g7, g8, g9, g10, g11, g12, g13, g14, g15]
theorem formed_sp (s : Sp) (h : s.sh.length = 16) : (Value.agg s.cells).formed Tryz.prog 29 = true := by
  have c25 : Tryz.prog.cellsOf 29 = 25 := by kernel_rfl
  simp [Value.formed, Tryz.underlying29, Sp.size h, c25]
theorem key_sp : Tryz.prog.keyTypeAt 3 29 = true := by kernel_rfl
theorem guard_sp : Tryz.prog.eqGuardType Tryz.prog.depth 29 = false := by kernel_rfl
theorem same_sp (s : Sp) (ok : s.ok) (w : World) : (Op.equalIn 10000 29 (.agg s.cells) (.agg s.cells)).run Tryz.prog w = .ok true w := by
  have e : (Value.agg s.cells).cells.toList = s.cellL := by simp [Value.cells, Sp.cells]
  obtain ⟨r, h1, h2⟩ := run_equalIn_deep (P := Tryz.prog) 9997 3 29 key_sp w 3 3 (.agg s.cells) (.agg s.cells) s.lits s.lits (formed_sp s ok.len) (formed_sp s ok.len) (by rw [e]; exact lits_sp s ok) (by rw [e]; exact lits_sp s ok)
  rw [h2.2 rfl] at h1
  exact h1
/-- The comparison as an operation. -/
theorem exec_same {o : Oper} {a : Act} {x y : Operand} {t2 : TypeId} (op : BinOp) (b : Bool) (hop : op = .eql ∧ b = true ∨ op = .neq ∧ b = false) (ho : o.op = .binOp op 29 x y t2) {s : Sp} (ok : s.ok) (hx : a.eval x = .agg s.cells) (hy : a.eval y = .agg s.cells) (w : World) :
    (execOp a.eval o).run Tryz.prog w = .ok (.value (.bool b)) w := by
  unfold execOp
  rcases hop with ⟨rfl, rfl⟩ | ⟨rfl, rfl⟩
  · simp only [ho, hx, hy, Sem.run_bind, run_eqGuard_agg w _ _ _ _ _ _ guard_sp, Result.andThen_ok, run_eql_struct, same_sp s ok w, Sem.run_pure]
  · simp only [ho, hx, hy, Sem.run_bind, run_eqGuard_agg w _ _ _ _ _ _ guard_sp, Result.andThen_ok, run_neq_struct, same_sp s ok w, Sem.run_pure, Bool.not_true]
theorem yields_same {ops : Array Oper} {S : World → Prop} {o : Oper} {a : Act} (hw : Region.wanted o (yielded ops a.tmps) = true) (x y : Operand) {t2 : TypeId} (ho : o.op = .binOp .eql 29 x y t2) {s : Sp} (ok : s.ok) (hx : a.eval x = .agg s.cells) (hy : a.eval y = .agg s.cells) :
    YieldsIf Tryz.prog ops S o (.bool true) a := .inl ⟨hw, fun w _ => exec_same .eql true (.inl ⟨rfl, rfl⟩) ho ok hx hy w⟩
theorem wp_same {o : Oper} {a : Act} {w : World} {K : Act → World → Prop} {Q : Exit → Act → World → Prop} {x y : Operand} {t2 : TypeId} (op : BinOp) (b : Bool) (hop : op = .eql ∧ b = true ∨ op = .neq ∧ b = false) (ho : o.op = .binOp op 29 x y t2) {s : Sp} (ok : s.ok) (hx : a.eval x = .agg s.cells) (hy : a.eval y = .agg s.cells)
    (h : K (a.put o.dst (.bool b)) w) : o.wp Tryz.prog a w K Q := by
  unfold Oper.wp
  rw [exec_same op b hop ho ok hx hy w]
  exact h
/-- The same, the operation written out: for arms that are tried at every operation. -/
theorem wl_eql_sp {ops : Array Oper} {rest : List Oper} {a : Act} {w : World} {Q : Exit → Act → World → Prop} {d : Option Nat} {x y : Operand} {t2 ty : TypeId} {ps : String} {af : Array Edge} {gd : Option (Nat × Bool)} {s : Sp} (ok : s.ok)
    (hw : Region.wanted ⟨d, .binOp .eql 29 x y t2, ty, ps, af, gd⟩ (yielded ops a.tmps) = true) (hx : a.eval x = .agg s.cells) (hy : a.eval y = .agg s.cells)
    (h : wpList Tryz.prog ops Q rest (a.put d (.bool true)) w) : wpList Tryz.prog ops Q (⟨d, .binOp .eql 29 x y t2, ty, ps, af, gd⟩ :: rest) a w :=
  BigFrame.wpList_want hw fun _ hK => wp_same .eql true (.inl ⟨rfl, rfl⟩) rfl ok hx hy (hK _ _ h)
theorem wl_neq_sp {ops : Array Oper} {rest : List Oper} {a : Act} {w : World} {Q : Exit → Act → World → Prop} {d : Option Nat} {x y : Operand} {t2 ty : TypeId} {ps : String} {af : Array Edge} {gd : Option (Nat × Bool)} {s : Sp} (ok : s.ok)
    (hw : Region.wanted ⟨d, .binOp .neq 29 x y t2, ty, ps, af, gd⟩ (yielded ops a.tmps) = true) (hx : a.eval x = .agg s.cells) (hy : a.eval y = .agg s.cells)
    (h : wpList Tryz.prog ops Q rest (a.put d (.bool false)) w) : wpList Tryz.prog ops Q (⟨d, .binOp .neq 29 x y t2, ty, ps, af, gd⟩ :: rest) a w :=
  BigFrame.wpList_want hw fun _ hK => wp_same .neq false (.inr ⟨rfl, rfl⟩) rfl ok hx hy (hK _ _ h)
end Go.Proofs.YtbmlpokkojhhjaaGreat
/- Two commands, or their data, compared as Go compares structs; no program's function. -/
namespace Go.Proofs.YtbmlpokkojhhjaaGreat
open Go.RowKit
set_option linter.unusedVariables false
set_option linter.unusedSimpArgs false
set_option maxRecDepth 100000

theorem wf15_u64 {x : Int} (h : 0 ≤ x ∧ x ≤ 18446744073709551615) : (Lit.int .u64 x).wf = true := by
  simp [Lit.wf, IntKind.min, IntKind.max, IntKind.signed, IntKind.bits]
  omega
def Cm.hdL (c : Cm) : List Lit := [.int .u8 c.kd, .int .u32 c.ac, .int .u32 c.ct, .int .u64 c.nu, .int .i64 c.am]
def Cm.tlL (c : Cm) : List Lit := [.bool c.on, .bool c.bu, .int .u8 c.as', .int .i64 c.px, .int .i64 c.qt]
def Cm.lits (c : Cm) : List Lit := c.hdL ++ (c.sp.lits ++ c.tlL)
theorem lits_cm15 (c : Cm) (h : c.ok) : Tryz.prog.keyLits 4 32 (ECm.cells c) = some c.lits := by
  have h0 := wf_u8 h.kd
  have h1 := wf_u32 h.ac
  have h2 := wf_u32 h.ct
  have h3 := wf15_u64 h.nu
  have h4 := wf_i64 h.am
  have h8 := wf_u8 h.as'
  have h9 := wf_i64 h.px
  have h10 := wf_i64 h.qt
  have hl := sp_len15 c.len
  have inner := lits_sp c.sp h.sp
  have e25 : (c.sp.cellL ++ c.tl).drop 25 = c.tl := by rw [← hl]; exact List.drop_left' rfl
  have t5 : ((ECm.cells c).drop 5).take 25 = c.sp.cellL := by
    show (c.sp.cellL ++ c.tl).take 25 = _
    rw [← hl]; exact List.take_left' rfl
  have dd : ∀ i, (ECm.cells c).drop (30 + i) = c.tl.drop i := fun i => by
    show (c.hd ++ (c.sp.cellL ++ c.tl)).drop (30 + i) = _
    rw [show 30 + i = 5 + (25 + i) by omega, ← List.drop_drop, ← List.drop_drop]
    show ((c.sp.cellL ++ c.tl).drop 25).drop i = _
    rw [e25]
  have d30 : (ECm.cells c).drop 30 = [.bool c.on, .bool c.bu, .int .u8 c.as', .int .i64 c.px, .int .i64 c.qt] := dd 0
  have d31 : (ECm.cells c).drop 31 = [.bool c.bu, .int .u8 c.as', .int .i64 c.px, .int .i64 c.qt] := dd 1
  have d32 : (ECm.cells c).drop 32 = [.int .u8 c.as', .int .i64 c.px, .int .i64 c.qt] := dd 2
  have d33 : (ECm.cells c).drop 33 = [.int .i64 c.px, .int .i64 c.qt] := dd 3
  have d34 : (ECm.cells c).drop 34 = [.int .i64 c.qt] := dd 4
  have t0 : (ECm.cells c).take 1 = [.int .u8 c.kd] := rfl
  have t1 : (ECm.cells c).tail.take 1 = [.int .u32 c.ac] := rfl
  have t2 : ((ECm.cells c).drop 2).take 1 = [.int .u32 c.ct] := rfl
  have t3 : ((ECm.cells c).drop 3).take 1 = [.int .u64 c.nu] := rfl
  have t4 : ((ECm.cells c).drop 4).take 1 = [.int .i64 c.am] := rfl
  have ll : (ECm.cells c).length = 35 := ECm.len c
  have k0 : Tryz.prog.keyLits 3 24 [.int .u8 c.kd] = some [.int .u8 c.kd] := by simp [Program.keyLits, Tryz.underlying24, h0]
  have k1 : Tryz.prog.keyLits 3 25 [.int .u32 c.ac] = some [.int .u32 c.ac] := by simp [Program.keyLits, Tryz.underlying25, h1]
  have k2 : Tryz.prog.keyLits 3 25 [.int .u32 c.ct] = some [.int .u32 c.ct] := by simp [Program.keyLits, Tryz.underlying25, h2]
  have k3 : Tryz.prog.keyLits 3 26 [.int .u64 c.nu] = some [.int .u64 c.nu] := by simp [Program.keyLits, Tryz.underlying26, h3]
  have k4 : Tryz.prog.keyLits 3 2 [.int .i64 c.am] = some [.int .i64 c.am] := by simp [Program.keyLits, Tryz.underlying2, h4]
  have k6 : Tryz.prog.keyLits 3 4 [.bool c.on] = some [.bool c.on] := by simp [Program.keyLits, Tryz.underlying4]
  have k7 : Tryz.prog.keyLits 3 4 [.bool c.bu] = some [.bool c.bu] := by simp [Program.keyLits, Tryz.underlying4]
  have k8 : Tryz.prog.keyLits 3 30 [.int .u8 c.as'] = some [.int .u8 c.as'] := by simp [Program.keyLits, Tryz.underlying30, h8]
  have k9 : Tryz.prog.keyLits 3 2 [.int .i64 c.px] = some [.int .i64 c.px] := by simp [Program.keyLits, Tryz.underlying2, h9]
  have k10 : Tryz.prog.keyLits 3 2 [.int .i64 c.qt] = some [.int .i64 c.qt] := by simp [Program.keyLits, Tryz.underlying2, h10]
  generalize ECm.cells c = L at *
  unfold Program.keyLits
  simp [Tryz.underlying32, cells_sp, cells15_kd, cells15_u32, cells15_u64, cells15_i64, cells15_bo, cells15_as, cells15_cm, t0, t1, t2, t3, t4, t5, d30, d31, d32, d33, d34, inner, k0, k1, k2, k3, k4, k6, k7, k8, k9, k10, ll, Cm.lits, Cm.hdL, Cm.tlL]
theorem formed_cm15 (c : Cm) : (Value.agg (ECm.cells c).toArray).formed Tryz.prog 32 = true := by
  have e := ECm.len c
  simp [Value.formed, Tryz.underlying32, cells15_cm, e]
  rfl
theorem key_cm15 : Tryz.prog.keyTypeAt 4 32 = true := by kernel_rfl
theorem guard_cm15 : Tryz.prog.eqGuardType Tryz.prog.depth 32 = false := by kernel_rfl
theorem sixteen15 {α : Type} {l : List α} (h : l.length = 16) : ∃ a b c d e f g i j k m n o p q r, l = [a, b, c, d, e, f, g, i, j, k, m, n, o, p, q, r] := by
  match l, h with
  | [a, b, c, d, e, f, g, i, j, k, m, n, o, p, q, r], _ => exact ⟨a, b, c, d, e, f, g, i, j, k, m, n, o, p, q, r, rfl⟩
theorem sp_lits_inj15 {s t : Sp} (hs : s.sh.length = 16) (ht : t.sh.length = 16) (h : s.lits = t.lits) : s = t := by
  obtain ⟨nu, ro, ti, lo, ba, li, sh, cr, la, fi⟩ := s
  obtain ⟨nu', ro', ti', lo', ba', li', sh', cr', la', fi'⟩ := t
  obtain ⟨a, b, c, d, e, f, g, i, j, k, m, n, o, p, q, r, rfl⟩ := sixteen15 hs
  obtain ⟨a', b', c', d', e', f', g', i', j', k', m', n', o', p', q', r', rfl⟩ := sixteen15 ht
  simp [Sp.lits] at h
  simp [h]
theorem cm_lits_inj15 {x y : Cm} (h : x.lits = y.lits) : x = y := by
  unfold Cm.lits at h
  obtain ⟨h1, h2⟩ := List.append_inj h rfl
  obtain ⟨h3, h4⟩ := List.append_inj h2 (by simp [Sp.lits, x.len, y.len])
  have e := sp_lits_inj15 x.len y.len h3
  simp only [Cm.hdL, List.cons.injEq, Lit.int.injEq, true_and, and_true] at h1
  simp only [Cm.tlL, List.cons.injEq, Lit.int.injEq, Lit.bool.injEq, true_and, and_true] at h4
  obtain ⟨e0, e1, e2, e3, e4⟩ := h1
  obtain ⟨e6, e7, e8, e9, e10⟩ := h4
  obtain ⟨a0, a1, a2, a3, a4, a5, a6, a7, a8, a9, a10, _⟩ := x
  obtain ⟨b0, b1, b2, b3, b4, b5, b6, b7, b8, b9, b10, _⟩ := y
  dsimp only at e e0 e1 e2 e3 e4 e6 e7 e8 e9 e10
  subst e e0 e1 e2 e3 e4 e6 e7 e8 e9 e10
  rfl
open Classical in
/-- The same Bool in every world. -/
noncomputable def eqCm (x y : Cm) : Bool := decide (x = y)
theorem eqCm_yes (x : Cm) : eqCm x x = true := by simp [eqCm]
theorem eqCm_no {x y : Cm} (h : x ≠ y) : eqCm x y = false := by simp [eqCm, h]
theorem eqCm_iff {x y : Cm} : eqCm x y = true ↔ x = y := by simp [eqCm]
theorem eq_cm15_run (x y : Cm) (hx : x.ok) (hy : y.ok) (w : World) : (Op.equalIn 10000 32 (.agg (ECm.cells x).toArray) (.agg (ECm.cells y).toArray)).run Tryz.prog w = .ok (eqCm x y) w := by
  have ex : (Value.agg (ECm.cells x).toArray).cells.toList = ECm.cells x := by simp [Value.cells]
  have ey : (Value.agg (ECm.cells y).toArray).cells.toList = ECm.cells y := by simp [Value.cells]
  obtain ⟨r, h1, h2⟩ := run_equalIn_deep (P := Tryz.prog) 9996 4 32 key_cm15 w 4 4 (.agg (ECm.cells x).toArray) (.agg (ECm.cells y).toArray) x.lits y.lits (formed_cm15 x) (formed_cm15 y) (by rw [ex]; exact lits_cm15 x hx) (by rw [ey]; exact lits_cm15 y hy)
  rw [h1]
  have : r = eqCm x y := by
    have h3 : r = true ↔ x = y := h2.trans ⟨cm_lits_inj15, fun e => by rw [e]⟩
    by_cases c : x = y
    · rw [h3.2 c, eqCm_iff.2 c]
    · rw [eqCm_no c]
      cases r
      · rfl
      · exact absurd (h3.1 rfl) c
  rw [this]
theorem exec_eql_cm15 {o : Oper} {a : Act} {x y : Operand} {t2 : TypeId} (ho : o.op = .binOp .eql 32 x y t2) {u v : Cm} (hu : u.ok) (hv : v.ok) (hx : a.eval x = .agg (ECm.cells u).toArray) (hy : a.eval y = .agg (ECm.cells v).toArray) (w : World) :
    (execOp a.eval o).run Tryz.prog w = .ok (.value (.bool (eqCm u v))) w := by
  unfold execOp
  simp only [ho, hx, hy, Sem.run_bind, run_eqGuard_agg w _ _ _ _ _ _ guard_cm15, Result.andThen_ok, run_eql_struct, eq_cm15_run u v hu hv w, Sem.run_pure]
theorem yields_eql_cm15 {ops : Array Oper} {S : World → Prop} {o : Oper} {a : Act} (hw : Region.wanted o (yielded ops a.tmps) = true) (x y : Operand) {t2 : TypeId} (ho : o.op = .binOp .eql 32 x y t2) {u v : Cm} (hu : u.ok) (hv : v.ok) (hx : a.eval x = .agg (ECm.cells u).toArray) (hy : a.eval y = .agg (ECm.cells v).toArray) :
    YieldsIf Tryz.prog ops S o (.bool (eqCm u v)) a := .inl ⟨hw, fun w _ => exec_eql_cm15 ho hu hv hx hy w⟩
section
variable {ops : Array Oper} {rest : List Oper} {a : Act} {w : World} {Q : Exit → Act → World → Prop} {d : Option Nat} {x y : Operand} {t2 ty : TypeId} {ps : String} {af : Array Edge} {gd : Option (Nat × Bool)}
theorem wl_eql_cm15 {u v : Cm} (hu : u.ok) (hv : v.ok) (hw : Region.wanted ⟨d, .binOp .eql 32 x y t2, ty, ps, af, gd⟩ (yielded ops a.tmps) = true) (hx : a.eval x = .agg (ECm.cells u).toArray) (hy : a.eval y = .agg (ECm.cells v).toArray)
    (h : wpList Tryz.prog ops Q rest (a.put d (.bool (eqCm u v))) w) : wpList Tryz.prog ops Q (⟨d, .binOp .eql 32 x y t2, ty, ps, af, gd⟩ :: rest) a w :=
  BigFrame.wpList_want hw fun _ hK => by
    unfold Oper.wp
    rw [exec_eql_cm15 rfl hu hv hx hy w]
    exact hK _ _ h
end
end Go.Proofs.YtbmlpokkojhhjaaGreat
/- An argument that is a list of structs, opened; no program's function, no program's type. -/
namespace Go.Proofs.YtbmlpokkojhhjaaGreat
open Go.ChangeShapes Go.WideShapes Go.ChangeAt Go.RowKit

section
variable {H : Type} {enc : TypeId × Value → H} {W : World} {base : Nat} {spare : Nat → Bool} {held : Bool}
/-- A list of structs, opened at every place. -/
theorem open_rows {α : Type} (cells : α → List Value) (good : α → Prop) {t e : TypeId} {N : Nat} (hN : Tryz.prog.cellsOf e = N) (hpos : 0 < N) (hcl : ∀ x, good x → (cells x).length = N) (ht : Tryz.prog.underlying t = some (.slice e))
    (one : ∀ (fuel : Nat) (l : List Value) (y : DataW H × List MemPlace), l.length = N → DataW.trod enc Tryz.prog W base spare held fuel e l = some y → ∃ x, l = cells x ∧ good x)
    {fuel : Nat} {cs : List Value} {x : DataW H × List MemPlace} (h : DataW.trod enc Tryz.prog W base spare held fuel t cs = some x) :
    ∃ (A : Option Addr) (len cap : Nat) (os : List α), cs = [.slice A len cap] ∧ os.length = len ∧ (∀ x, x ∈ os → good x) ∧ (A = none → len = 0 ∧ cap = 0) ∧ len ≤ cap ∧ cap ≤ maxLen ∧
      (0 < len → ∃ b o, A = some ⟨b, o, none⟩ ∧ b < W.heap.size ∧ ∀ (k : Nat) (x : α), os[k]? = some x → W.rangeAt b (o + k * N) (cells x)) := by
  rcases Deep.open_slice ht h with ⟨rfl, _⟩ | ⟨a, len, cap, m, n, D, Pl, rfl, hb, hl, hm, hmm, _, hx⟩
  · exact ⟨none, 0, 0, [], rfl, rfl, (fun x hx => by cases hx), (fun _ => ⟨rfl, rfl⟩), Nat.le_refl _, Nat.zero_le _, fun h => absurd h (Nat.lt_irrefl 0)⟩
  · have hlm : len ≤ m := by rw [hmm]; split <;> omega
    have each : ∀ i : Nat, i < len → ∃ y : α, good y ∧ ∀ j, j < N → W.cell? ((a.add (i * N)).add j) = (cells y)[j]? := fun i hi => by
      obtain ⟨cs', h1, h2⟩ := hx i (by omega)
      rw [hN] at h1
      obtain ⟨_, hlen, hc⟩ := World.cells?_some h1
      obtain ⟨y, rfl, hy⟩ := one _ _ _ hlen h2
      exact ⟨y, hy, hc⟩
    refine ⟨some a, len, cap, List.ofFn fun i : Fin len => (each i.1 i.2).choose, rfl, by simp, fun y hy => ?_, fun h => (by cases h), hl, hm, fun hp => ?_⟩
    · obtain ⟨i, rfl⟩ := List.mem_ofFn.1 hy
      exact (each i.1 i.2).choose_spec.1
    · obtain ⟨b, off, spot⟩ := a
      have h0 := (each 0 hp).choose_spec
      have c0 := h0.2 0 hpos
      have hl0 := hcl _ h0.1
      rw [List.getElem?_eq_getElem (by omega)] at c0
      have hspot : spot = none := by simpa [Addr.add] using World.cell?_spot c0
      subst hspot
      have plain : ∀ i j, ((⟨b, off, none⟩ : Addr).add i).add j = ⟨b, off + i + j, none⟩ := fun i j => (congrArg (fun x : Addr => x.add j) (Go.WideShapes.add_plain b off i)).trans (Go.WideShapes.add_plain b (off + i) j)
      refine ⟨b, off, rfl, World.block_lt_of_cell? W _ ((congrArg W.cell? (plain (0 * N) 0)).symm.trans c0), fun k y hk j v hj => ?_⟩
      obtain ⟨hkl, hke⟩ := List.getElem?_eq_some_iff.1 hk
      have hkl' : k < len := by simpa using hkl
      have hy : y = (each k hkl').choose := by rw [← hke]; simp
      have hjl := (List.getElem?_eq_some_iff.1 hj).1
      have hs := (each k hkl').choose_spec
      rw [hy] at hj hjl
      rw [hcl _ hs.1] at hjl
      exact (congrArg W.cell? (plain (k * N) j)).symm.trans ((hs.2 j hjl).trans hj)
end
end Go.Proofs.YtbmlpokkojhhjaaGreat
/- A reply as seven cells, three of them slices; trades, numbers, accounts in memory; the argument opened; no program's function. -/
namespace Go.Proofs.YtbmlpokkojhhjaaGreat
open Go.ChangeShapes Go.WideShapes Go.ChangeAt Go.RowKit
set_option linter.unusedVariables false
set_option linter.unusedSimpArgs false
set_option maxRecDepth 100000

def ETw : Elt Tw := ⟨fun t => [.int .i64 t.px, .int .i64 t.qt, .int .u64 t.nu, .int .u32 t.ac], 4, by decide, fun _ => rfl, fun x u hu => by
  simp only [List.mem_cons, List.not_mem_nil, or_false] at hu
  rcases hu with rfl | rfl | rfl | rfl <;> rfl⟩
def E6w : Elt Int := ⟨fun n => [.int .u64 n], 1, by decide, fun _ => rfl, fun x u hu => by
  simp only [List.mem_cons, List.not_mem_nil, or_false] at hu
  rcases hu with rfl
  rfl⟩
def E3w : Elt Int := ⟨fun n => [.int .u32 n], 1, by decide, fun _ => rfl, fun x u hu => by
  simp only [List.mem_cons, List.not_mem_nil, or_false] at hu
  rcases hu with rfl
  rfl⟩
def zeroTw : Tw := ⟨0, 0, 0, 0⟩
theorem TTw : EltT Tryz.prog ETw 36 72 := ⟨Tryz.underlying36, ⟨_, Tryz.underlying72⟩, ⟨.agg (ETw.cells zeroTw).toArray, 32, by kernel_rfl, rfl, by decide⟩⟩
/-- A reply in memory: its cells. -/
structure Rv where
  er : Int
  nu : Int
  fi : Int
  le : Int
  tA : Option Addr
  tl : Nat
  tc : Nat
  gA : Option Addr
  gl : Nat
  gc : Nat
  aA : Option Addr
  al : Nat
  ac : Nat
def ERv : Elt Rv := ⟨fun r => [.int .i64 r.er, .int .u64 r.nu, .int .i64 r.fi, .int .i64 r.le, .slice r.tA r.tl r.tc, .slice r.gA r.gl r.gc, .slice r.aA r.al r.ac], 7, by decide, fun _ => rfl, fun x u hu => by
  simp only [List.mem_cons, List.not_mem_nil, or_false] at hu
  rcases hu with rfl | rfl | rfl | rfl | rfl | rfl | rfl <;> rfl⟩
theorem TRv : EltR Tryz.prog ERv 40 := ⟨⟨_, Tryz.underlying40⟩, by kernel_rfl⟩
def zeroRv : Rv := ⟨0, 0, 0, 0, none, 0, 0, none, 0, 0, none, 0, 0⟩
theorem zero_rv15 (w : World) : (zeroValue 40).run Tryz.prog w = .ok (.agg (ERv.cells zeroRv).toArray) w := by kernel_rfl
/-- What the cells stand for. -/
structure Rv.In (w : World) (v : Rv) (r : Rw) : Prop where
  er : v.er = r.er
  nu : v.nu = r.nu
  fi : v.fi = r.fi
  le : v.le = r.le
  tr : ETw.Rd w v.tA v.tl r.tr
  go : E6w.Rd w v.gA v.gl r.go
  ac : E3w.Rd w v.aA v.al r.ac
/-- Bounds of the slices. -/
structure Rv.ok (v : Rv) : Prop where
  tl : v.tl ≤ maxLen
  gl : v.gl ≤ maxLen
  al : v.al ≤ maxLen
  t0 : v.tA = none → v.tc = 0
  g0 : v.gA = none → v.gc = 0
  a0 : v.aA = none → v.ac = 0
  tc : v.tl ≤ v.tc ∧ v.tc ≤ maxLen
  gc : v.gl ≤ v.gc ∧ v.gc ≤ maxLen
  ac : v.al ≤ v.ac ∧ v.ac ≤ maxLen
theorem Rv.In.below {w W : World} {v : Rv} {r : Rw} (h : v.In w r) (q : Below w.heap.size w W) : v.In W r :=
  ⟨h.er, h.nu, h.fi, h.le, grd_below h.tr q (Nat.le_refl _), grd_below h.go q (Nat.le_refl _), grd_below h.ac q (Nat.le_refl _)⟩
theorem cells15_rv : Tryz.prog.cellsOf 40 = 7 := by kernel_rfl
theorem cells15_tw : Tryz.prog.cellsOf 72 = 4 := by kernel_rfl
section
variable {H : Type} {enc : TypeId × Value → H} {W : World} {base : Nat} {spare : Nat → Bool} {held : Bool}
theorem rd_of15 {α : Type} {E : Elt α} {A : Option Addr} {len : Nat} {os : List α} (h1 : os.length = len) (h3 : A = none → len = 0) (h6 : 0 < len → ∃ b o, A = some ⟨b, o, none⟩ ∧ b < W.heap.size ∧ ∀ (k : Nat) (x : α), os[k]? = some x → W.rangeAt b (o + k * E.N) (E.cells x)) : E.Rd W A len os := by
  refine ⟨h1, h3, fun hm a e => ?_⟩
  obtain ⟨b, o, e2, _, hx⟩ := h6 hm
  rw [e] at e2
  cases e2
  refine ⟨rfl, fun j u hj => ?_⟩
  have hl := (List.getElem?_eq_some_iff.1 hj).1
  rw [gflat_len] at hl
  have hN := E.pos
  have hk : j / E.N < os.length := Nat.div_lt_of_lt_mul (by rw [Nat.mul_comm]; exact hl)
  obtain ⟨x, hx'⟩ : ∃ x, os[j / E.N]? = some x := ⟨os[j / E.N], List.getElem?_eq_getElem hk⟩
  have hi := Nat.mod_lt j hN
  have ej : j / E.N * E.N + j % E.N = j := by rw [Nat.mul_comm]; exact Nat.div_add_mod j E.N
  have hf := gflat_at os (j / E.N) x hx' (j % E.N) hi
  rw [ej, hj] at hf
  have := hx (j / E.N) x hx' (j % E.N) u hf.symm
  rw [Nat.add_assoc, ej] at this
  exact this
theorem open15_twL {fuel : Nat} {l : List Value} {y : DataW H × List MemPlace} (hl : l.length = 4) (hf : DataW.trod enc Tryz.prog W base spare held fuel 72 l = some y) : ∃ t : Tw, l = ETw.cells t ∧ t.ok := by
  match l, hl with
  | [c0, c1, c2, c3], _ =>
    obtain ⟨xs, n, _, hx, _, hlen, hg⟩ := DataW.trod_struct Tryz.underlying72 hf
    have h4 : xs.length = 4 := hlen
    have g0 : DataW.trod enc Tryz.prog W base spare held n 2 [c0] = xs[0]? := hg 0 _ rfl
    have g1 : DataW.trod enc Tryz.prog W base spare held n 2 [c1] = xs[1]? := hg 1 _ rfl
    have g2 : DataW.trod enc Tryz.prog W base spare held n 26 [c2] = xs[2]? := hg 2 _ rfl
    have g3 : DataW.trod enc Tryz.prog W base spare held n 25 [c3] = xs[3]? := hg 3 _ rfl
    rw [List.getElem?_eq_getElem (by omega)] at g0 g1 g2 g3
    obtain ⟨x0, e0, _, w0⟩ := DataW.trod_int Tryz.underlying2 g0
    obtain ⟨x1, e1, _, w1⟩ := DataW.trod_int Tryz.underlying2 g1
    obtain ⟨x2, e2, _, w2⟩ := DataW.trod_int Tryz.underlying26 g2
    obtain ⟨x3, e3, _, w3⟩ := DataW.trod_int Tryz.underlying25 g3
    simp at e0 e1 e2 e3
    subst e0 e1 e2 e3
    exact ⟨⟨x0, x1, x2, x3⟩, rfl, bounds_i64 w0, bounds_i64 w1, bounds15_u64 w2, bounds_u32 w3⟩
theorem open15_rvL {fuel : Nat} {l : List Value} {y : DataW H × List MemPlace} (hl : l.length = 7) (hf : DataW.trod enc Tryz.prog W base spare held fuel 40 l = some y) : ∃ (v : Rv) (r : Rw), l = ERv.cells v ∧ v.ok ∧ v.In W r ∧ r.ok := by
  match l, hl with
  | [c0, c1, c2, c3, c4, c5, c6], _ =>
    obtain ⟨xs, n, _, hx, _, hlen, hg⟩ := DataW.trod_struct Tryz.underlying40 hf
    have h7 : xs.length = 7 := hlen
    have g0 : DataW.trod enc Tryz.prog W base spare held n 33 [c0] = xs[0]? := hg 0 _ rfl
    have g1 : DataW.trod enc Tryz.prog W base spare held n 26 [c1] = xs[1]? := hg 1 _ rfl
    have g2 : DataW.trod enc Tryz.prog W base spare held n 2 [c2] = xs[2]? := hg 2 _ rfl
    have g3 : DataW.trod enc Tryz.prog W base spare held n 2 [c3] = xs[3]? := hg 3 _ rfl
    have g4 : DataW.trod enc Tryz.prog W base spare held n 36 [c4] = xs[4]? := hg 4 _ rfl
    have g5 : DataW.trod enc Tryz.prog W base spare held n 37 [c5] = xs[5]? := hg 5 _ rfl
    have g6 : DataW.trod enc Tryz.prog W base spare held n 38 [c6] = xs[6]? := hg 6 _ rfl
    rw [List.getElem?_eq_getElem (by omega)] at g0 g1 g2 g3 g4 g5 g6
    obtain ⟨x0, e0, _, w0⟩ := DataW.trod_int Tryz.underlying33 g0
    obtain ⟨x1, e1, _, w1⟩ := DataW.trod_int Tryz.underlying26 g1
    obtain ⟨x2, e2, _, w2⟩ := DataW.trod_int Tryz.underlying2 g2
    obtain ⟨x3, e3, _, w3⟩ := DataW.trod_int Tryz.underlying2 g3
    obtain ⟨tA, tl, tc, ts, e4, a1, a2, a3, a4, a5, a6⟩ := open_rows ETw.cells Tw.ok cells15_tw (by decide) (fun x hx => ETw.len x) Tryz.underlying36 (fun f l y hl hf => open15_twL hl hf) g4
    obtain ⟨gA, gl, gc, gs, e5, b1, b2, b3, b4, b5, b6⟩ := open_rows E6w.cells (fun n => 0 ≤ n ∧ n ≤ 18446744073709551615) cells15_u64 (by decide) (fun x hx => E6w.len x) Tryz.underlying37 (fun f l y hl hf => by
      match l, hl with
      | [c], _ =>
        obtain ⟨x, e, _, w⟩ := DataW.trod_int Tryz.underlying26 hf
        simp at e
        subst e
        exact ⟨x, rfl, bounds15_u64 w⟩) g5
    obtain ⟨aA, al, ac, as', e6, d1, d2, d3, d4, d5, d6⟩ := open_rows E3w.cells (fun n => 0 ≤ n ∧ n ≤ 4294967295) cells15_u32 (by decide) (fun x hx => E3w.len x) Tryz.underlying38 (fun f l y hl hf => by
      match l, hl with
      | [c], _ =>
        obtain ⟨x, e, _, w⟩ := DataW.trod_int Tryz.underlying25 hf
        simp at e
        subst e
        exact ⟨x, rfl, bounds_u32 w⟩) g6
    simp at e0 e1 e2 e3 e4 e5 e6
    subst e0 e1 e2 e3 e4 e5 e6
    exact ⟨⟨x0, x1, x2, x3, tA, tl, tc, gA, gl, gc, aA, al, ac⟩, ⟨x0, x1, x2, x3, ts, gs, as'⟩, rfl,
      ⟨by show tl ≤ maxLen; omega, by show gl ≤ maxLen; omega, by show al ≤ maxLen; omega, fun e => (a3 e).2, fun e => (b3 e).2, fun e => (d3 e).2, ⟨a4, a5⟩, ⟨b4, b5⟩, ⟨d4, d5⟩⟩,
      ⟨rfl, rfl, rfl, rfl, rd_of15 a1 (fun e => (a3 e).1) a6, rd_of15 b1 (fun e => (b3 e).1) b6, rd_of15 d1 (fun e => (d3 e).1) d6⟩,
      ⟨bounds_i64 w0, bounds15_u64 w1, bounds_i64 w2, bounds_i64 w3, a2, b2, d2⟩⟩
theorem open_rv15 {r : Reach} {b0 : Nat} {v : Value} {d : DataW H} {p : List MemPlace} (hv : Value.okWide Tryz.prog W r b0 40 v) (h : DataW.Trod enc Tryz.prog W base spare held 40 v d p) : ∃ (x : Rv) (y : Rw), v = .agg (ERv.cells x).toArray ∧ x.ok ∧ x.In W y ∧ y.ok := by
  obtain ⟨cs, rfl, hsz⟩ := okWide_struct Tryz.underlying40 hv
  obtain ⟨l⟩ := cs
  obtain ⟨fuel, hf⟩ := h
  obtain ⟨x, y, rfl, ok⟩ := open15_rvL (hsz.trans cells15_rv) hf
  exact ⟨x, y, rfl, ok⟩
end
end Go.Proofs.YtbmlpokkojhhjaaGreat
/- What is asked of the program's words; the statements' own: large, known. -/
namespace Go.Proofs.YtbmlpokkojhhjaaGreat
open Go.RowKit
set_option linter.unusedVariables false
set_option linter.unusedSimpArgs false

open Classical in
noncomputable def mcB (c : Cm) : Bool := decide (MayC c)
open Classical in
noncomputable def mrB (r : Rw) : Bool := decide (MayR r)
open Classical in
noncomputable def eqRw (r s : Rw) : Bool := decide (r = s)
noncomputable def cmF (c : Cm) : List Int := if mcB c then formC c else []
noncomputable def cmE (c : Cm) : Int := if mcB c then 0 else 2
noncomputable def rpF (r : Rw) : List Int := if mrB r then formR r else []
noncomputable def rpE (r : Rw) : Int := if mrB r then 0 else 2
theorem mcB_yes {c : Cm} : mcB c = true ↔ MayC c := by simp [mcB]
theorem mrB_yes {r : Rw} : mrB r = true ↔ MayR r := by simp [mrB]
theorem eqRw_yes {r s : Rw} : eqRw r s = true ↔ r = s := by simp [eqRw]
theorem cm_may {c : Cm} (h : MayC c) : cmF c = formC c ∧ cmE c = 0 := by unfold cmF cmE; rw [mcB_yes.2 h]; exact ⟨rfl, rfl⟩
theorem cm_not {c : Cm} (h : ¬ MayC c) : cmF c = [] ∧ cmE c = 2 := by
  have : mcB c = false := by cases e : mcB c; rfl; exact absurd (mcB_yes.1 e) h
  unfold cmF cmE; rw [this]; exact ⟨rfl, rfl⟩
theorem rp_may {r : Rw} (h : MayR r) : rpF r = formR r ∧ rpE r = 0 := by unfold rpF rpE; rw [mrB_yes.2 h]; exact ⟨rfl, rfl⟩
theorem rp_not {r : Rw} (h : ¬ MayR r) : rpF r = [] ∧ rpE r = 2 := by
  have : mrB r = false := by cases e : mrB r; rfl; exact absurd (mrB_yes.1 e) h
  unfold rpF rpE; rw [this]; exact ⟨rfl, rfl⟩
def zeroRw : Rw := ⟨0, 0, 0, 0, [], [], []⟩
/-- Bytes told, and whether. -/
def ToldB (bs : List Int) (E : Int) (B : Nat) (w w' : World) (e : Ending) : Prop := ∃ A n c, e = .returned (.tuple #[.slice A n c, .int .i64 E]) ∧ RdB w' A n bs ∧ Below B w w' ∧ (A = none → n = 0 ∧ c = 0)
/-- What is asked of the program. -/
structure WordsK : Prop where
  mayC : ∀ (c : Cm) (w : World), c.ok → Calls Tryz.prog 16 #[.agg (ECm.cells c).toArray] w fun e w' => e = .returned (.bool (mcB c)) ∧ Below w.heap.size w w'
  cmd : ∀ (c : Cm) (w : World), c.ok → Calls Tryz.prog 10 #[.agg (ECm.cells c).toArray] w fun e w' => ToldB (cmF c) (cmE c) w.heap.size w w' e
  rdC : ∀ (A : Option Addr) (n cap : Nat) (bs : List Int) (w : World), RdB w A n bs → By bs → (A = none → n = 0 ∧ cap = 0) → n ≤ 100000 → Calls Tryz.prog 5 #[.slice A n cap] w fun e w' =>
    ∃ (c : Cm) (E : Int), e = .returned (.tuple #[.agg (ECm.cells c).toArray, .int .i64 E]) ∧ (IsC bs c ∧ E = 0 ∨ (∀ d, ¬ IsC bs d) ∧ c = zeroCm ∧ E = 5) ∧ Below w.heap.size w w'
  mayR : ∀ (v : Rv) (r : Rw) (w : World), v.ok → v.In w r → r.ok → Calls Tryz.prog 37 #[.agg (ERv.cells v).toArray] w fun e w' => e = .returned (.bool (mrB r)) ∧ Below w.heap.size w w'
  rep : ∀ (v : Rv) (r : Rw) (w : World), v.ok → v.In w r → r.ok → Calls Tryz.prog 11 #[.agg (ERv.cells v).toArray] w fun e w' => ToldB (rpF r) (rpE r) w.heap.size w w' e
  rdR : ∀ (A : Option Addr) (n cap : Nat) (bs : List Int) (w : World), RdB w A n bs → By bs → (A = none → n = 0 ∧ cap = 0) → n ≤ 100000 → Calls Tryz.prog 7 #[.slice A n cap] w fun e w' =>
    ∃ (v : Rv) (r : Rw) (E : Int), e = .returned (.tuple #[.agg (ERv.cells v).toArray, .int .i64 E]) ∧ v.ok ∧ v.In w' r ∧ (IsR bs r ∧ E = 0 ∨ (∀ d, ¬ IsR bs d) ∧ r = zeroRw ∧ E = 5) ∧ Below w.heap.size w w'
  same : ∀ (v u : Rv) (r s : Rw) (w : World), v.ok → v.In w r → r.ok → u.ok → u.In w s → s.ok → Calls Tryz.prog 81 #[.agg (ERv.cells v).toArray, .agg (ERv.cells u).toArray] w fun e w' => e = .returned (.bool (eqRw r s)) ∧ Below w.heap.size w w'
/-- More than is looked at. -/
def lrgB (v : Rv) : Bool := decide (300 < max (max v.tl v.gl) v.al) && decide (max (max v.tl v.gl) v.al ≤ 4000) || decide (5000 < max (max v.tl v.gl) v.al)
def kCm : Cm := ⟨1, 1, 0, 0, 5, zeroSpW, false, false, 0, 0, 0, rfl⟩
def kRv : Rv := ⟨7, 0, 0, 0, none, 0, 0, none, 0, 0, none, 0, 0⟩
def kRw : Rw := ⟨7, 0, 0, 0, [], [], []⟩
theorem zeroSp_ok15 : zeroSpW.ok := by
  refine ⟨?_, ?_, ?_, ?_, ?_, ?_, ?_, ?_, ?_, ?_, ?_⟩ <;> simp [zeroSpW, I64]
theorem kCm_ok : kCm.ok := by
  refine ⟨?_, ?_, ?_, ?_, ?_, zeroSp_ok15, ?_, ?_, ?_⟩ <;> simp [kCm, I64]
theorem kCm_may : MayC kCm := by
  refine ⟨by simp [kCm], fun i hi hn => ?_, fun h => ?_⟩
  · match i, hi with
    | 0, _ => exact absurd (show 0 ∈ flds kCm.kd by simp [kCm, flds]) hn
    | 1, _ => rfl
    | 2, _ => rfl
    | 3, _ => exact absurd (show 3 ∈ flds kCm.kd by simp [kCm, flds]) hn
    | 4, _ => rfl
    | 5, _ => rfl
    | 6, _ => rfl
    | 7, _ => rfl
    | 8, _ => rfl
    | 9, _ => rfl
  · simp [kCm, flds] at h
theorem kCm_form : formC kCm = [1, 1, 10] := by
  simp [formC, kCm, flds, fF, ib, nb_small]
theorem kRw_ok : kRw.ok := by
  refine ⟨?_, ?_, ?_, ?_, fun t h => ?_, fun t h => ?_, fun t h => ?_⟩
  · simp [kRw, I64]
  · simp [kRw]
  · simp [kRw, I64]
  · simp [kRw, I64]
  · simp [kRw] at h
  · simp [kRw] at h
  · simp [kRw] at h
theorem kRw_may : MayR kRw := ⟨by simp [kRw], by simp [kRw], by simp [kRw], by simp [kRw], fun _ => ⟨rfl, rfl, rfl, rfl, rfl, rfl⟩⟩
theorem kRw_form : formR kRw = [7] := by simp [formR, kRw, nb_small]
theorem kRv_ok : kRv.ok := by
  refine ⟨?_, ?_, ?_, ?_, ?_, ?_, ?_, ?_, ?_⟩ <;> simp [kRv]
theorem kRv_in (w : World) : kRv.In w kRw := ⟨rfl, rfl, rfl, rfl, grd_nil _ _, grd_nil _ _, grd_nil _ _⟩
theorem built_k1 : Program.built Tryz.prog 32 [(0, .int .u8 1), (1, .int .u32 1), (4, .int .i64 5)] = some (ECm.cells kCm).toArray := by kernel_rfl
theorem built_k2 : Program.built Tryz.prog 40 [(0, .int .i64 7)] = some (ERv.cells kRv).toArray := by kernel_rfl
section
variable {ops : Array Oper} {rest : List Oper} {a : Act} {w : World} {Q : Exit → Act → World → Prop} {d : Option Nat} {ty : TypeId} {ps : String} {af : Array Edge}
theorem wl_k1 (h : wpList Tryz.prog ops Q rest (a.put d (.agg (ECm.cells kCm).toArray)) w) :
    wpList Tryz.prog ops Q ({ dst := d, op := .build 32 #[(0, .const (.int .u8 1)), (1, .const (.int .u32 1)), (4, .const (.int .i64 5))], type := ty, pos := ps, after := af, guard := none } :: rest) a w := by
  have e : (#[(0, Operand.const (.int .u8 1)), (1, .const (.int .u32 1)), (4, .const (.int .i64 5))].map fun (i, x) => (i, a.eval x)).toList = [(0, Value.int .u8 1), (1, .int .u32 1), (4, .int .i64 5)] := by simp [Act.eval]
  refine wpList_build rfl 32 _ rfl (by rw [e, built_k1]; rfl) ?_
  rw [e, built_k1]
  exact h
theorem wl_k2 (h : wpList Tryz.prog ops Q rest (a.put d (.agg (ERv.cells kRv).toArray)) w) :
    wpList Tryz.prog ops Q ({ dst := d, op := .build 40 #[(0, .const (.int .i64 7))], type := ty, pos := ps, after := af, guard := none } :: rest) a w := by
  have e : (#[(0, Operand.const (.int .i64 7))].map fun (i, x) => (i, a.eval x)).toList = [(0, Value.int .i64 7)] := by simp [Act.eval]
  refine wpList_build rfl 40 _ rfl (by rw [e, built_k2]; rfl) ?_
  rw [e, built_k2]
  exact h
end
theorem run_max3_15 (ts : Array TypeId) (t : TypeId) (x y z : Int) (w : World) : (Builtin.max_ ts t #[.int .i64 x, .int .i64 y, .int .i64 z]).run Tryz.prog w = .ok (.int .i64 (max (max x y) z)) w := by
  have e : ∀ a b : Int, (if b > a then b else a) = max a b := fun a b => by split <;> omega
  simp [Builtin.max_, Builtin.max2]
  rw [e, e]
  omega



























































set_option maxRecDepth 100000 in
set_option maxHeartbeats 4000000 in
theorem known15 (K : WordsK) (w : World) : Calls Tryz.prog 4 #[] w fun e w' => e = .returned (.bool true) ∧ Below w.heap.size w w' := by
  have C1 := Lib.hid fun W => K.cmd kCm W kCm_ok
  have C2 := Lib.hid fun W => K.rep kRv kRw W kRv_ok (kRv_in W) kRw_ok
  rw [(cm_may kCm_may).1, (cm_may kCm_may).2, kCm_form] at C1
  rw [(rp_may kRw_may).1, (rp_may kRw_may).2, kRw_form] at C2
  have s1 : strOfNums [1, 1, 10] = { data := #[1, 1, 10] } := by rfl
  have s2 : strOfNums [7] = { data := #[7] } := by rfl
  have S1 := Lib.hid s1
  have S2 := Lib.hid s2
  clear K s1 s2
  go_enter Tryz.func4, Tryz.ntmps4
  go_wp2_with ((with_reducible refine wl_k1 ?_))
  refine (C1.out _).mono ?_; rintro e w2 ⟨A1, n1, c1, rfl, r1, q1, -⟩
  have R1 := Lib.hid r1
  have Q1 := Lib.hid q1
  clear r1 q1
  go_wp2_with ((with_reducible refine wl_k2 ?_))
  refine (C2.out _).mono ?_; rintro e w3 ⟨A2, n2, c2, rfl, r2, q2, -⟩
  have k1 := conv_any (c := c1) (R1.out.below q2)
  have k2 := conv_any (c := c2) r2
  have Q2 := Lib.hid (Q1.out.trans (q2.mono Q1.out.size))
  rw [S1.out] at k1
  rw [S2.out] at k2
  clear r2 q2
  go_wp2_with fail
  go_ret
  exact ⟨rfl, Q2.out⟩
end Go.Proofs.YtbmlpokkojhhjaaGreat
/- The document's Fields: a kind's letters (by genWdg.py). -/
namespace Go.Proofs.YtbmlpokkojhhjaaGreat
open Go.RowKit
set_option linter.unusedVariables false
set_option linter.unusedSimpArgs false

/-- A kind's letters. -/
def fsB (k : Int) : ByteArray := if k = 1 then ⟨#[97, 109]⟩ else if k = 2 then ⟨#[97, 109]⟩ else if k = 3 then ⟨#[115]⟩ else if k = 4 then ⟨#[99, 111]⟩ else if k = 5 then ⟨#[97, 99, 98, 107, 112, 113]⟩ else if k = 6 then ⟨#[97, 110]⟩ else if k = 7 then ⟨#[97, 110, 112, 113]⟩ else if k = 8 then ⟨#[97, 99]⟩ else if k = 9 then ⟨#[97, 99, 98, 112, 113]⟩ else if k = 10 then ⟨#[97, 111]⟩ else if k = 11 then ⟨#[99, 112]⟩ else if k = 13 then ⟨#[97]⟩ else if k = 14 then ⟨#[99]⟩ else ⟨#[]⟩
theorem rfields15 (k : Int) (hk : 0 ≤ k ∧ k ≤ 255) (w : World) : Calls Tryz.prog 18 #[.int .u8 k] w fun e w' => e = .returned (.string (fsB k)) ∧ w = w' := by
  by_cases e1 : k = 1
  · subst e1
    clear hk
    go_enter Tryz.func18, Tryz.ntmps18
    go_wp2_with fail
    go_ret
    exact ⟨rfl, rfl⟩
  by_cases e2 : k = 2
  · subst e2
    clear hk e1
    go_enter Tryz.func18, Tryz.ntmps18
    go_wp2_with fail
    go_ret
    exact ⟨rfl, rfl⟩
  by_cases e3 : k = 3
  · subst e3
    clear hk e1 e2
    go_enter Tryz.func18, Tryz.ntmps18
    go_wp2_with fail
    go_ret
    exact ⟨rfl, rfl⟩
  by_cases e4 : k = 4
  · subst e4
    clear hk e1 e2 e3
    go_enter Tryz.func18, Tryz.ntmps18
    go_wp2_with fail
    go_ret
    exact ⟨rfl, rfl⟩
  by_cases e5 : k = 5
  · subst e5
    clear hk e1 e2 e3 e4
    go_enter Tryz.func18, Tryz.ntmps18
    go_wp2_with fail
    go_ret
    exact ⟨rfl, rfl⟩
  by_cases e6 : k = 6
  · subst e6
    clear hk e1 e2 e3 e4 e5
    go_enter Tryz.func18, Tryz.ntmps18
    go_wp2_with fail
    go_ret
    exact ⟨rfl, rfl⟩
  by_cases e7 : k = 7
  · subst e7
    clear hk e1 e2 e3 e4 e5 e6
    go_enter Tryz.func18, Tryz.ntmps18
    go_wp2_with fail
    go_ret
    exact ⟨rfl, rfl⟩
  by_cases e8 : k = 8
  · subst e8
    clear hk e1 e2 e3 e4 e5 e6 e7
    go_enter Tryz.func18, Tryz.ntmps18
    go_wp2_with fail
    go_ret
    exact ⟨rfl, rfl⟩
  by_cases e9 : k = 9
  · subst e9
    clear hk e1 e2 e3 e4 e5 e6 e7 e8
    go_enter Tryz.func18, Tryz.ntmps18
    go_wp2_with fail
    go_ret
    exact ⟨rfl, rfl⟩
  by_cases e10 : k = 10
  · subst e10
    clear hk e1 e2 e3 e4 e5 e6 e7 e8 e9
    go_enter Tryz.func18, Tryz.ntmps18
    go_wp2_with fail
    go_ret
    exact ⟨rfl, rfl⟩
  by_cases e11 : k = 11
  · subst e11
    clear hk e1 e2 e3 e4 e5 e6 e7 e8 e9 e10
    go_enter Tryz.func18, Tryz.ntmps18
    go_wp2_with fail
    go_ret
    exact ⟨rfl, rfl⟩
  by_cases e13 : k = 13
  · subst e13
    clear hk e1 e2 e3 e4 e5 e6 e7 e8 e9 e10 e11
    go_enter Tryz.func18, Tryz.ntmps18
    go_wp2_with fail
    go_ret
    exact ⟨rfl, rfl⟩
  by_cases e14 : k = 14
  · subst e14
    clear hk e1 e2 e3 e4 e5 e6 e7 e8 e9 e10 e11 e13
    go_enter Tryz.func18, Tryz.ntmps18
    go_wp2_with fail
    go_ret
    exact ⟨rfl, rfl⟩
  have d1 : (k == 1) = false := by simp [e1]
  have d2 : (k == 2) = false := by simp [e2]
  have d3 : (k == 3) = false := by simp [e3]
  have d4 : (k == 4) = false := by simp [e4]
  have d5 : (k == 5) = false := by simp [e5]
  have d6 : (k == 6) = false := by simp [e6]
  have d7 : (k == 7) = false := by simp [e7]
  have d8 : (k == 8) = false := by simp [e8]
  have d9 : (k == 9) = false := by simp [e9]
  have d10 : (k == 10) = false := by simp [e10]
  have d11 : (k == 11) = false := by simp [e11]
  have d13 : (k == 13) = false := by simp [e13]
  have d14 : (k == 14) = false := by simp [e14]
  have E : Hid (fsB k = ⟨#[]⟩) := Lib.hid (by unfold fsB; rw [if_neg e1, if_neg e2, if_neg e3, if_neg e4, if_neg e5, if_neg e6, if_neg e7, if_neg e8, if_neg e9, if_neg e10, if_neg e11, if_neg e13, if_neg e14])
  clear hk e1 e2 e3 e4 e5 e6 e7 e8 e9 e10 e11 e13 e14
  go_enter Tryz.func18, Tryz.ntmps18
  go_wp2_with fail
  go_ret
  rw [E.out]
  exact ⟨rfl, rfl⟩
end Go.Proofs.YtbmlpokkojhhjaaGreat
