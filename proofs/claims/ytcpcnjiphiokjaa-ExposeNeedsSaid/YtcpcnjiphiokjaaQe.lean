/- A contract's data are the same as themselves, as Go compares structs; no program's function. -/
import Derived.Test.YtcpcnjiphiokjaaQp
import Derived.DeepKeys
import Derived.Laws.StructEq
namespace Go.Proofs.Ytcpcnjiphiokjaa
open Go.RowKit

def Sp.lits (s : Sp) : List Lit := [.int .u32 s.nu, .int .u8 s.ro, .int .i64 s.ti, .int .i64 s.lo, .int .i64 s.ba, .int .i64 s.li] ++ (s.sh.map (Lit.int .i64) ++ [.int .i64 s.cr, .int .u32 s.la, .int .i64 s.fi])
theorem wf_i64 {x : Int} (h : I64 x) : (Lit.int .i64 x).wf = true := by
  obtain ⟨h1, h2⟩ := h
  simp [Lit.wf, IntKind.min, IntKind.max, IntKind.signed, IntKind.bits]
  omega
theorem wf_u32 {x : Int} (h : 0 ≤ x ∧ x ≤ 4294967295) : (Lit.int .u32 x).wf = true := by
  simp [Lit.wf, IntKind.min, IntKind.max, IntKind.signed, IntKind.bits]
  omega
theorem wf_u8 {x : Int} (h : 0 ≤ x ∧ x ≤ 255) : (Lit.int .u8 x).wf = true := by
  simp [Lit.wf, IntKind.min, IntKind.max, IntKind.signed, IntKind.bits]
  omega
theorem lits_sp (s : Sp) (ok : s.ok) : Try.prog.keyLits 3 28 s.cellL = some s.lits := by
  obtain ⟨nu, ro, ti, lo, ba, li, sh, cr, la, fi⟩ := s
  have h0 := wf_u32 ok.nu
  have h1 := wf_u8 ok.ro
  have h2 := wf_i64 ok.ti
  have h3 := wf_i64 ok.lo
  have h4 := wf_i64 ok.ba
  have h5 := wf_i64 ok.li
  have h6 := wf_i64 ok.cr
  have h7 := wf_u32 ok.la
  have h8 := wf_i64 ok.fi
  have hs : ∀ x, x ∈ sh → (Lit.int .i64 x).wf = true := fun x hx => wf_i64 (ok.sh x hx)
  have hl := ok.len
  dsimp only at h0 h1 h2 h3 h4 h5 h6 h7 h8 hl
  clear ok
  match sh, hl, hs with
  | [x0, x1, x2, x3, x4, x5, x6, x7, x8, x9, x10, x11, x12, x13, x14, x15], _, hs =>
    simp only [List.forall_mem_cons] at hs
    obtain ⟨g0, g1, g2, g3, g4, g5, g6, g7, g8, g9, g10, g11, g12, g13, g14, g15, _⟩ := hs
    have c25 : Try.prog.cellsOf 28 = 25 := by kernel_rfl
    have c22 : Try.prog.cellsOf 25 = 1 := by kernel_rfl
    have c5 : Try.prog.cellsOf 5 = 1 := by kernel_rfl
    have c2 : Try.prog.cellsOf 2 = 1 := by kernel_rfl
    have c23 : Try.prog.cellsOf 26 = 16 := by kernel_rfl
    have r16 : List.range 16 = [0, 1, 2, 3, 4, 5, 6, 7, 8, 9, 10, 11, 12, 13, 14, 15] := by decide
    simp [Program.keyLits, Sp.cellL, Sp.lits, Try.underlying28, Try.underlying25, Try.underlying5, Try.underlying2, Try.underlying26, c25, c22, c5, c2, c23, r16, h0, h1, h2, h3, h4, h5, h6, h7, h8, g0, g1, g2, g3, g4, g5, g6, g7, g8, g9, g10, g11, g12, g13, g14, g15]
theorem formed_sp (s : Sp) (h : s.sh.length = 16) : (Value.agg s.cells).formed Try.prog 28 = true := by
  have c25 : Try.prog.cellsOf 28 = 25 := by kernel_rfl
  simp [Value.formed, Try.underlying28, Sp.size h, c25]
theorem key_sp : Try.prog.keyTypeAt 3 28 = true := by kernel_rfl
theorem guard_sp : Try.prog.eqGuardType Try.prog.depth 28 = false := by kernel_rfl
theorem same_sp (s : Sp) (ok : s.ok) (w : World) : (Op.equalIn 10000 28 (.agg s.cells) (.agg s.cells)).run Try.prog w = .ok true w := by
  have e : (Value.agg s.cells).cells.toList = s.cellL := by simp [Value.cells, Sp.cells]
  obtain ⟨r, h1, h2⟩ := run_equalIn_deep (P := Try.prog) 9997 3 28 key_sp w 3 3 (.agg s.cells) (.agg s.cells) s.lits s.lits (formed_sp s ok.len) (formed_sp s ok.len) (by rw [e]; exact lits_sp s ok) (by rw [e]; exact lits_sp s ok)
  rw [h2.2 rfl] at h1
  exact h1
/-- The comparison as an operation. -/
theorem exec_same {o : Oper} {a : Act} {x y : Operand} {t2 : TypeId} (op : BinOp) (b : Bool) (hop : op = .eql ∧ b = true ∨ op = .neq ∧ b = false) (ho : o.op = .binOp op 28 x y t2) {s : Sp} (ok : s.ok) (hx : a.eval x = .agg s.cells) (hy : a.eval y = .agg s.cells) (w : World) :
    (execOp a.eval o).run Try.prog w = .ok (.value (.bool b)) w := by
  unfold execOp
  rcases hop with ⟨rfl, rfl⟩ | ⟨rfl, rfl⟩
  · simp only [ho, hx, hy, Sem.run_bind, run_eqGuard_agg w _ _ _ _ _ _ guard_sp, Result.andThen_ok, run_eql_struct, same_sp s ok w, Sem.run_pure]
  · simp only [ho, hx, hy, Sem.run_bind, run_eqGuard_agg w _ _ _ _ _ _ guard_sp, Result.andThen_ok, run_neq_struct, same_sp s ok w, Sem.run_pure, Bool.not_true]
theorem yields_same {ops : Array Oper} {S : World → Prop} {o : Oper} {a : Act} (hw : Region.wanted o (yielded ops a.tmps) = true) (x y : Operand) {t2 : TypeId} (ho : o.op = .binOp .eql 28 x y t2) {s : Sp} (ok : s.ok) (hx : a.eval x = .agg s.cells) (hy : a.eval y = .agg s.cells) :
    YieldsIf Try.prog ops S o (.bool true) a := .inl ⟨hw, fun w _ => exec_same .eql true (.inl ⟨rfl, rfl⟩) ho ok hx hy w⟩
theorem wp_same {o : Oper} {a : Act} {w : World} {K : Act → World → Prop} {Q : Exit → Act → World → Prop} {x y : Operand} {t2 : TypeId} (op : BinOp) (b : Bool) (hop : op = .eql ∧ b = true ∨ op = .neq ∧ b = false) (ho : o.op = .binOp op 28 x y t2) {s : Sp} (ok : s.ok) (hx : a.eval x = .agg s.cells) (hy : a.eval y = .agg s.cells)
    (h : K (a.put o.dst (.bool b)) w) : o.wp Try.prog a w K Q := by
  unfold Oper.wp
  rw [exec_same op b hop ho ok hx hy w]
  exact h
/-- The same, the operation written out: for arms that are tried at every operation. -/
theorem wl_eql_sp {ops : Array Oper} {rest : List Oper} {a : Act} {w : World} {Q : Exit → Act → World → Prop} {d : Option Nat} {x y : Operand} {t2 ty : TypeId} {ps : String} {af : Array Edge} {gd : Option (Nat × Bool)} {s : Sp} (ok : s.ok)
    (hw : Region.wanted ⟨d, .binOp .eql 28 x y t2, ty, ps, af, gd⟩ (yielded ops a.tmps) = true) (hx : a.eval x = .agg s.cells) (hy : a.eval y = .agg s.cells)
    (h : wpList Try.prog ops Q rest (a.put d (.bool true)) w) : wpList Try.prog ops Q (⟨d, .binOp .eql 28 x y t2, ty, ps, af, gd⟩ :: rest) a w :=
  BigFrame.wpList_want hw fun _ hK => wp_same .eql true (.inl ⟨rfl, rfl⟩) rfl ok hx hy (hK _ _ h)
theorem wl_neq_sp {ops : Array Oper} {rest : List Oper} {a : Act} {w : World} {Q : Exit → Act → World → Prop} {d : Option Nat} {x y : Operand} {t2 ty : TypeId} {ps : String} {af : Array Edge} {gd : Option (Nat × Bool)} {s : Sp} (ok : s.ok)
    (hw : Region.wanted ⟨d, .binOp .neq 28 x y t2, ty, ps, af, gd⟩ (yielded ops a.tmps) = true) (hx : a.eval x = .agg s.cells) (hy : a.eval y = .agg s.cells)
    (h : wpList Try.prog ops Q rest (a.put d (.bool false)) w) : wpList Try.prog ops Q (⟨d, .binOp .neq 28 x y t2, ty, ps, af, gd⟩ :: rest) a w :=
  BigFrame.wpList_want hw fun _ hK => wp_same .neq false (.inr ⟨rfl, rfl⟩) rfl ok hx hy (hK _ _ h)
end Go.Proofs.Ytcpcnjiphiokjaa
