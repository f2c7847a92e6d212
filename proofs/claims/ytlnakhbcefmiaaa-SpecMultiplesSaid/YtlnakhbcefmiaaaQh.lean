/- A contract's data read field by field into a variable, out of the program's reader: what stands in memory meanwhile. -/
import Derived.Test.YtlnakhbcefmiaaaQa
import Derived.Test.YtlnakhbcefmiaaaQt
namespace Go.Proofs.Ytlnakhbcefmiaaa
open Go.RowKit

section
variable {s : Sp}
theorem set0 (x : Int) : s.cells.setIfInBounds 0 (.int .u32 x) = ({ s with nu := x } : Sp).cells := by simp [Sp.cells, Sp.cellL]
theorem set1 (x : Int) : s.cells.setIfInBounds 1 (.int .u8 x) = ({ s with ro := x } : Sp).cells := by simp [Sp.cells, Sp.cellL]
theorem set2 (x : Int) : s.cells.setIfInBounds 2 (.int .i64 x) = ({ s with ti := x } : Sp).cells := by simp [Sp.cells, Sp.cellL]
theorem set3 (x : Int) : s.cells.setIfInBounds 3 (.int .i64 x) = ({ s with lo := x } : Sp).cells := by simp [Sp.cells, Sp.cellL]
theorem set4 (x : Int) : s.cells.setIfInBounds 4 (.int .i64 x) = ({ s with ba := x } : Sp).cells := by simp [Sp.cells, Sp.cellL]
theorem set5 (x : Int) : s.cells.setIfInBounds 5 (.int .i64 x) = ({ s with li := x } : Sp).cells := by simp [Sp.cells, Sp.cellL]
theorem set6 (h : s.sh.length = 16) (i : Nat) (hi : i < 16) (x : Int) : s.cells.setIfInBounds (6 + i) (.int .i64 x) = ({ s with sh := s.sh.set i x } : Sp).cells := by
  have hl : i < s.sh.length := by omega
  rw [show 6 + i = i + 1 + 1 + 1 + 1 + 1 + 1 by omega]
  simp [Sp.cells, Sp.cellL, hl, List.map_set]
theorem set22 (h : s.sh.length = 16) (x : Int) : s.cells.setIfInBounds 22 (.int .i64 x) = ({ s with cr := x } : Sp).cells := by simp [Sp.cells, Sp.cellL, h]
theorem set23 (h : s.sh.length = 16) (x : Int) : s.cells.setIfInBounds 23 (.int .u32 x) = ({ s with la := x } : Sp).cells := by simp [Sp.cells, Sp.cellL, h]
theorem set24 (h : s.sh.length = 16) (x : Int) : s.cells.setIfInBounds 24 (.int .i64 x) = ({ s with fi := x } : Sp).cells := by simp [Sp.cells, Sp.cellL, h]
end
theorem sR_most {bs : List Int} (hy : By bs) (e : Int) {m : Int} (hm : 0 ≤ m) : 0 ≤ (sR bs e m).1 ∧ (sR bs e m).1 ≤ m := by
  have hb := sR_bd hy e m
  refine ⟨hb.1, ?_⟩
  unfold sR
  split
  · exact hm
  · split
    · exact hm
    · split
      · exact hm
      · dsimp only; omega
theorem iR_by {bs : List Int} (hy : By bs) (e : Int) : By (iR bs e).2.1 ∧ (iR bs e).2.1.length ≤ bs.length := sR_by hy e top
theorem iR_fits {bs : List Int} (hy : By bs) (e : Int) : I64 (iR bs e).1 := by
  have hb := sR_bd hy e top
  show I64 (zz (sR bs e top).1)
  unfold zz I64
  split <;> omega
/-- A reader that lay there, and the data read so far in a block that is new. -/
structure Tk (w : World) (g g3 n0 : Nat) (A0 : Option Addr) (W : World) (s : Sp) (bs : List Int) (e : Int) : Prop where
  rq : ∃ A n c, Rq W g A n c bs e ∧ ∀ a, A = some a → ∃ a0, A0 = some a0 ∧ a.block = a0.block
  old : g < w.heap.size ∧ ∀ a0, A0 = some a0 → 0 < n0 → a0.block < w.heap.size
  len : bs.length ≤ n0
  new : w.heap.size ≤ g3
  box : Box W g3 s
  gr : w.grownBy W (some g)
section
variable {w W W' : World} {g g3 n0 : Nat} {A0 : Option Addr} {s s' : Sp} {bs bs' : List Int} {e e' : Int}
theorem Tk.call (h : Tk w g g3 n0 A0 W s bs e) {A : Option Addr} (hA : ∀ a, A = some a → ∃ a0, A0 = some a0 ∧ a.block = a0.block) (d : Dd W g A bs' e' W') (hl : bs'.length ≤ bs.length) : Tk w g g3 n0 A0 W' s bs' e' := by
  obtain ⟨⟨A', n, c, rq, hA'⟩, gr⟩ := d
  refine ⟨⟨A', n, c, rq, fun a ha => ?_⟩, h.old, Nat.le_trans hl h.len, h.new, ⟨(gr.block g3 (Array.getElem?_eq_some_iff.1 h.box.1).1 (by have := h.old.1; have := h.new; simp; omega)).trans h.box.1, h.box.2⟩, ?_⟩
  · obtain ⟨a1, h1, h2⟩ := hA' a ha
    obtain ⟨a0, h3, h4⟩ := hA a1 h1
    exact ⟨a0, h3, h2.trans h4⟩
  · exact ⟨gr.os.trans h.gr.os, gr.tape.trans h.gr.tape, gr.output.trans h.gr.output, Nat.le_trans h.gr.size gr.size, fun k hk hne => (gr.block k (Nat.lt_of_lt_of_le hk h.gr.size) hne).trans (h.gr.block k hk hne)⟩
theorem Tk.put (h : Tk w g g3 n0 A0 W s bs e) {j : Nat} {v : Value} (hl : s'.sh.length = 16) (eq : s.cells.setIfInBounds j v = s'.cells) : Tk w g g3 n0 A0 (W.setCell ⟨g3, j, none⟩ v) s' bs e := by
  obtain ⟨⟨A, n, c, rq, hA⟩, old, len, new, box, gr⟩ := h
  have hg : g ≠ g3 := by omega
  refine ⟨⟨A, n, c, ⟨(heap_setCell_other _ _ _ _ hg).trans rq.b, ⟨rq.r.1, fun hn => ?_⟩, rq.nc⟩, hA⟩, old, len, new, box_cell box hl eq, ?_⟩
  · obtain ⟨b, o, e1, hc⟩ := rq.r.2 hn
    refine ⟨b, o, e1, fun i hi => ?_⟩
    obtain ⟨a0, h1, h2⟩ := hA _ e1
    have hb : b < w.heap.size := by
      have := old.2 a0 h1 (by have := rq.r.1; omega)
      have h3 : b = a0.block := h2
      omega
    rw [World.cell?_setCell_other (h := fun e2 => by cases e2; omega)]
    exact hc i hi
  · refine ⟨gr.os, gr.tape, gr.output, by have := gr.size; simpa using this, fun k hk hne => ?_⟩
    rw [heap_setCell_other _ _ _ _ (by show k ≠ g3; omega)]
    exact gr.block k hk hne
end
end Go.Proofs.Ytlnakhbcefmiaaa
