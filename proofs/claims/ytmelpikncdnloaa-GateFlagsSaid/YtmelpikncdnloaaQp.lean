/- A contract's data read whole out of memory, in plain regions and in such as draw their order; no program's function. -/
import Derived.Test.YtmelpikncdnloaaQd
import Derived.Laws.Rows
import Derived.Laws.Tables
import Derived.RegionTactic
import Derived.OrdersHeld
import Derived.BigFrame
namespace Go.Proofs.Ytmelpikncdnloaa
open Go.RowKit

theorem info_sp : (Try.prog.info? 25).map (fun i => i.size) = some 25 := by kernel_rfl
/-- The data stand in a block. -/
def Box (w : World) (g : Nat) (s : Sp) : Prop := w.heap[g]? = some (.cells s.cells 25 (0, 0)) ∧ s.sh.length = 16
theorem Box.info {w : World} {g : Nat} {s : Sp} (h : Box w g s) : (Try.prog.info? 25).map (fun i => i.size) = some s.cells.size := by rw [info_sp, Sp.size h.2]
theorem Box.below {w W : World} {g : Nat} {s : Sp} (h : Box w g s) (b : Below w.heap.size w W) : Box W g s :=
  ⟨(b.block g (Array.getElem?_eq_some_iff.1 h.1).1).trans h.1, h.2⟩
theorem box_new (w : World) {s : Sp} (h : s.sh.length = 16) : Box (w.alloc (.cells s.cells 25)) w.heap.size s := ⟨heap_alloc_new w _, h⟩
theorem Box.cell {w : World} {g : Nat} {s : Sp} (h : Box w g s) (j : Nat) : w.cell? ⟨g, j, none⟩ = s.cells[j]? := cell_of_row w g j s.cells _ _ h.1
theorem wp_load_sp {o : Oper} {a : Act} {w : World} {K : Act → World → Prop} {Q : Exit → Act → World → Prop} (x : Operand) (ho : o.op = .load 25 x) (g : Nat) (hx : a.eval x = .pointer (some ⟨g, 0, none⟩)) {s : Sp} (hb : Box w g s)
    (h : K (a.put o.dst (.agg s.cells)) w) : o.wp Try.prog a w K Q :=
  wp_load_row 25 x ho g hx 25 s.cells (0, 0) _ hb.1 Try.underlying25 rfl hb.info h
theorem wpl_load_sp {ops : Array Oper} {rest : List Oper} {o : Oper} {a : Act} {w : World} {Q : Exit → Act → World → Prop} (hw : Region.wanted o (yielded ops a.tmps) = true) (x : Operand) (ho : o.op = .load 25 x) (g : Nat) (hx : a.eval x = .pointer (some ⟨g, 0, none⟩)) {s : Sp} (hb : Box w g s)
    (h : wpList Try.prog ops Q rest (a.put o.dst (.agg s.cells)) w) : wpList Try.prog ops Q (o :: rest) a w :=
  BigFrame.wpList_want hw fun _ hK => wp_load_sp x ho g hx hb (hK _ _ h)
theorem yields_load_sp {ops : Array Oper} {S : World → Prop} {o : Oper} {a : Act} (hw : Region.wanted o (yielded ops a.tmps) = true) (x : Operand) (ho : o.op = .load 25 x) (g : Nat) (hx : a.eval x = .pointer (some ⟨g, 0, none⟩)) {s : Sp} (hb : ∀ w, S w → Box w g s) :
    YieldsIf Try.prog ops S o (.agg s.cells) a :=
  .inl ⟨hw, fun w hw' => by
    unfold execOp
    simp only [ho, hx, Instr.loadAt, Instr.sureAddr, Sem.run_bind, Sem.run_pure, Result.andThen_ok, run_loadVar_row w g 25 25 s.cells (0, 0) _ (hb w hw').1 Try.underlying25 rfl (hb w hw').info]⟩
/-- The data are stored whole over others in a block. -/
theorem wpl_store_sp {ops : Array Oper} {rest : List Oper} {o : Oper} {a : Act} {w : World} {Q : Exit → Act → World → Prop} (hgd : o.guard = none) (x y : Operand) (ho : o.op = .store 25 x y) (g : Nat) (hx : a.eval x = .pointer (some ⟨g, 0, none⟩)) {s t : Sp} (hy : a.eval y = .agg s.cells) (hs : s.sh.length = 16) (hb : Box w g t)
    (h : wpList Try.prog ops Q rest (a.put o.dst undef) (w.setRow g s.cells)) : wpList Try.prog ops Q (o :: rest) a w :=
  wpList_store_row hgd 25 x y ho g s.cells hx hy 25 t.cells hb.1 (by rw [info_sp, Sp.size hs]) (by rw [Sp.size hs, Sp.size hb.2]) s.one h
theorem box_set {w : World} {g : Nat} {s t : Sp} (hb : Box w g t) (hs : s.sh.length = 16) : Box (w.setRow g s.cells) g s := ⟨setRow_heap w g t.cells s.cells _ _ hb.1, hs⟩
theorem box_cell {w : World} {g j : Nat} {s t : Sp} {v : Value} (hb : Box w g s) (ht : t.sh.length = 16) (e : s.cells.setIfInBounds j v = t.cells) : Box (w.setCell ⟨g, j, none⟩ v) g t :=
  ⟨by rw [heap_setCell_same w g j s.cells _ _ hb.1, e], ht⟩
theorem Box.free {w : World} {g : Nat} {s : Sp} (h : Box w g s) (j : Nat) : w.frozen? ⟨g, j, none⟩ = false := by
  simp [World.frozen?, h.1]
theorem below_row' {base : Nat} {w W : World} {g : Nat} {cs : Array Value} (b : Below base w W) (h : base ≤ g) : Below base w (W.setRow g cs) :=
  ⟨b.os, b.tape, b.output, by
    have := b.size
    show w.heap.size ≤ (W.heap.modify g _).size
    rw [Array.size_modify]; exact this, fun i hi => (setRow_other W g i cs (by omega)).trans (b.block i hi)⟩
theorem ret_sp {fn : Func} {p : Tmp} (h : fn.results = #[.cell p 25]) (tmps : Array Value) (w : World) (g : Nat) {s : Sp} (hp : tmps.getD p undef = .pointer (some ⟨g, 0, none⟩)) (hb : Box w g s) :
    (results fn tmps).run Try.prog w = .ok (.agg s.cells) w :=
  results_cell_row h tmps w g 25 s.cells (0, 0) _ hp hb.1 Try.underlying25 rfl hb.info
theorem zero_sp (w : World) : (zeroValue 25).run Try.prog w = .ok (.agg zeroSp.cells) w := by kernel_rfl
/-- The same, the operation written out: for arms that are tried at every operation. -/
theorem wl_load_sp {ops : Array Oper} {rest : List Oper} {a : Act} {w : World} {Q : Exit → Act → World → Prop} {d : Option Nat} {x : Operand} {ty : TypeId} {ps : String} {af : Array Edge} {gd : Option (Nat × Bool)} {s : Sp} (g : Nat) (hb : Box w g s)
    (hw : Region.wanted ⟨d, .load 25 x, ty, ps, af, gd⟩ (yielded ops a.tmps) = true) (hx : a.eval x = .pointer (some ⟨g, 0, none⟩))
    (h : wpList Try.prog ops Q rest (a.put d (.agg s.cells)) w) : wpList Try.prog ops Q (⟨d, .load 25 x, ty, ps, af, gd⟩ :: rest) a w :=
  wpl_load_sp hw x rfl g hx hb h
theorem wl_store_sp {ops : Array Oper} {rest : List Oper} {a : Act} {w : World} {Q : Exit → Act → World → Prop} {d : Option Nat} {x y : Operand} {ty : TypeId} {ps : String} {af : Array Edge} {t : Sp} (s : Sp) (g : Nat) (hb : Box w g t) (hs : s.sh.length = 16)
    (hx : a.eval x = .pointer (some ⟨g, 0, none⟩)) (hy : a.eval y = .agg s.cells)
    (h : wpList Try.prog ops Q rest (a.put d undef) (w.setRow g s.cells)) : wpList Try.prog ops Q (⟨d, .store 25 x y, ty, ps, af, none⟩ :: rest) a w :=
  wpl_store_sp rfl x y rfl g hx hy hs hb h
end Go.Proofs.Ytmelpikncdnloaa
