/- GENERIC: a region that makes two cells and writes them, in any order: what each step leaves. -/
import Derived.Test.YtlbekdpmfjhjhaaHSa
namespace Go.Proofs.Ytlbekdpmfjhjhaa
open Go.RowKit
set_option linter.unusedVariables false
set_option linter.unusedSimpArgs false

theorem twp_alloc {P : Program} {o : Oper} {a : Act} {w : World} {K : Act → World → Prop} {Q : Exit → Act → World → Prop} (ty : TypeId) (ho : o.op = .alloc ty) {cs : Array Value} (hz : ∀ w, (zeroValue ty).run P w = .ok (.agg cs) w)
    (h : K (a.put o.dst (.pointer (some ⟨w.heap.size, 0, none⟩))) (w.alloc (.cells cs ty))) : o.wp P a w K Q := by
  unfold Oper.wp execOp
  simp [ho, Instr.alloc, hz, newVar, Result.andThen, go_sem]
  exact h
theorem twp_store {α : Type} {E : Elt α} {P : Program} {ts te : TypeId} (T : EltT P E ts te) {o : Oper} {a : Act} {w : World} {K : Act → World → Prop} {Q : Exit → Act → World → Prop} (x y : Operand) (ho : o.op = .store te x y) (s : α) {t : α} (g : Nat) (hb : E.Bx te w g t) (hx : a.eval x = .pointer (some ⟨g, 0, none⟩)) (hy : a.eval y = .agg (E.cells s).toArray)
    (h : K (a.put o.dst undef) (w.setRow g (E.cells s).toArray)) : o.wp P a w K Q :=
  wp_store_row te x y ho g (E.cells s).toArray hx hy te (E.cells t).toArray hb (by rw [gsize T, List.size_toArray, E.len]) (by rw [List.size_toArray, List.size_toArray, E.len, E.len]) (gall_one s) h
section
variable {α β : Type} {E : Elt α} {F : Elt β} {te tf : TypeId} {w W : World} {B a b : Nat} {x x' : α} {y y' : β}
theorem tbx_alloc (h : E.Bx te W a x) (o : Obj) : E.Bx te (W.alloc o) a x := gbx_below h (below_new W o)
theorem tbx_row (h : E.Bx te W a x) (hne : a ≠ b) (cs : Array Value) : E.Bx te (W.setRow b cs) a x := (setRow_other W b a cs (by omega)).trans h
theorem tbx_lt (h : E.Bx te W a x) : a < W.heap.size := (Array.getElem?_eq_some_iff.1 h).1
/-- One cell. -/
structure One (E : Elt α) (te : TypeId) (B : Nat) (w W : World) (a : Nat) (x : α) : Prop where
  at' : E.Bx te W a x
  ge : B ≤ a
  bel : Below B w W
/-- Both. -/
structure Both (E : Elt α) (F : Elt β) (te tf : TypeId) (B : Nat) (w W : World) (a : Nat) (x : α) (b : Nat) (y : β) : Prop where
  fst : E.Bx te W a x
  snd : F.Bx tf W b y
  ga : B ≤ a
  gb : B ≤ b
  ne : a ≠ b
  bel : Below B w W
theorem One.new (h : Below B w W) (x : α) (hB : B ≤ w.heap.size) : One E te B w (W.alloc (.cells (E.cells x).toArray te)) W.heap.size x :=
  ⟨gbx_new W x, Nat.le_trans hB h.size, h.alloc (Nat.le_trans hB h.size) _⟩
theorem One.set (h : One E te B w W a x) (x' : α) : One E te B w (W.setRow a (E.cells x').toArray) a x' :=
  ⟨gbx_set h.at', h.ge, below_row0 h.bel h.ge⟩
theorem One.andR (h : One E te B w W a x) (hB : B ≤ w.heap.size) (y : β) : Both E F te tf B w (W.alloc (.cells (F.cells y).toArray tf)) a x W.heap.size y :=
  ⟨tbx_alloc h.at' _, gbx_new W y, h.ge, Nat.le_trans hB h.bel.size, (by have := tbx_lt h.at'; omega), h.bel.alloc (Nat.le_trans hB h.bel.size) _⟩
theorem One.andL (h : One F tf B w W b y) (hB : B ≤ w.heap.size) (x : α) : Both E F te tf B w (W.alloc (.cells (E.cells x).toArray te)) W.heap.size x b y :=
  ⟨gbx_new W x, tbx_alloc h.at' _, Nat.le_trans hB h.bel.size, h.ge, (by have := tbx_lt h.at'; omega), h.bel.alloc (Nat.le_trans hB h.bel.size) _⟩
theorem Both.setL (h : Both E F te tf B w W a x b y) (x' : α) : Both E F te tf B w (W.setRow a (E.cells x').toArray) a x' b y :=
  ⟨gbx_set h.fst, tbx_row h.snd (Ne.symm h.ne) _, h.ga, h.gb, h.ne, below_row0 h.bel h.ga⟩
theorem Both.setR (h : Both E F te tf B w W a x b y) (y' : β) : Both E F te tf B w (W.setRow b (F.cells y').toArray) a x b y' :=
  ⟨tbx_row h.fst h.ne _, gbx_set h.snd, h.ga, h.gb, h.ne, below_row0 h.bel h.gb⟩
end
end Go.Proofs.Ytlbekdpmfjhjhaa
