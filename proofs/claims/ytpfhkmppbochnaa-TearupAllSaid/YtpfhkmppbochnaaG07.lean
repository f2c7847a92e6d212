/- What stands in memory while the parts are raised, and the laws of a list of plain numbers. -/
import Derived.Great.BuildSlice
import Derived.Test.YtpfhkmppbochnaaG06
namespace Go.Proofs.Ytpfhkmppbochnaa
open Go.RowKit Go.Sort

section
variable {ops : Array Oper} {rest : List Oper} {a : Act} {w : World} {Q : Exit → Act → World → Prop} {d : Option Tmp} {ty : TypeId} {pos : String} {af : Array Edge}
theorem fill_nm (s : Bool) (f : Nat → Int) : Instr.fill (fun i => some (i * 13, 13)) ((Array.range (1 * 13)).map ((Value.agg (nm false fun _ => 0)).cells[· % (Value.agg (nm false fun _ => 0)).cells.size]!)) [(0, .agg (nm s f))] = some (nm s f) := by kernel_rfl
theorem wl_bs_nm {x : Operand} (s : Bool) (f : Nat → Int) (hx : a.eval x = .agg (nm s f)) (h : wpList Try.prog ops Q rest (a.put d (.slice (some ⟨w.heap.size, 0, none⟩) 1 1)) (w.alloc (.cells (nm s f) 48))) :
    wpList Try.prog ops Q ({ dst := d, op := .buildSlice 52 1 #[(0, x)], type := ty, pos := pos, after := af, guard := none } :: rest) a w := by
  obtain ⟨ie, h1, h2, h3, _⟩ := info_parts info_num
  refine wpList_buildSlice rfl 52 48 1 #[(0, x)] rfl (nm s f) ie (.agg (nm false fun _ => 0)) Try.underlying52 h1 h2 (by rw [h3]; decide) (by rw [h3]; decide) ?_ h
  rw [h3, show ((#[(0, x)] : Array (Nat × Operand)).map fun (i, x) => (i, a.eval x)).toList = [(0, a.eval x)] from by simp, hx]
  exact fill_nm s f
theorem wl_store_nm_mid {x y : Operand} (g o : Nat) (s : Bool) (f : Nat → Int) (hx : a.eval x = .pointer (some ⟨g, o, none⟩)) (hy : a.eval y = .agg (nm s f)) (ht : w.there g o 13) (h : wpList Try.prog ops Q rest a (w.setCells g o (nm s f).toList)) :
    wpList Try.prog ops Q ({ dst := none, op := .store 48 x y, type := ty, pos := pos, after := af, guard := none } :: rest) a w :=
  wpList_store_mid rfl 48 x y rfl g o (nm s f) hx hy ht (by kernel_rfl) (nm_one _ _) h
end

section
variable {w : World} {B g7 : Nat} {u : Bool} {N : Int} {p r : Nat → Int} {k m : Nat} {vp vq : Value} {xs ys : List Value} {W W' : World}
theorem own_apart (o1 : W.ownsRow B 2 1 vp k xs) (o2 : W.ownsRow B 48 13 vq m ys) : vp.ownBlock = none ∨ vp.ownBlock ≠ vq.ownBlock := by
  rcases o1.2 with ⟨rfl, _⟩ | ⟨a, c1, x1, rfl, _, e1, _⟩
  · exact .inl rfl
  · right
    rcases o2.2 with ⟨rfl, _⟩ | ⟨b, c2, x2, rfl, _, e2, _⟩
    · simp [Value.ownBlock]
    · intro e
      simp only [Value.ownBlock, Option.some.injEq] at e
      rw [e, e2] at e1
      simp at e1
theorem own_ne {g : Nat} {cs : Array Value} (o1 : W.ownsRow B 2 1 vp k xs) (h : Row W g 48 cs) : vp.ownBlock ≠ some g := by
  rcases o1.2 with ⟨rfl, _⟩ | ⟨a, c1, x1, rfl, _, e1, _⟩
  · simp [Value.ownBlock]
  · intro e
    simp only [Value.ownBlock, Option.some.injEq] at e
    subst e
    have := h.symm.trans e1
    simp at this
theorem row_grown {g : Nat} {t : TypeId} {cs : Array Value} {row : Option Nat} (h : Row W g t cs) (hg : W.grownBy W' row) (hne : row ≠ some g) : Row W' g t cs := (hg.block g h.lt fun e => hne e.symm).trans h
/-- One part more. -/
theorem L2.part2 (h : L2 w B g7 u N p r k vp vq W) {vp' : Value} {g15 : Nat} {cs : Array Value} (r15 : Row W g15 48 cs) (o : W'.ownsRow B 2 1 vp' (k + 1) (il p k ++ [.int .i64 (p k)])) (hg : W.grownBy W' vp.ownBlock) :
    (W'.ownsRow B 2 1 vp' (k + 1) (il p (k + 1)) ∧ W'.ownsRow B 48 13 vq k (nl r k) ∧ Row W' g7 48 (nm u (dgs N)) ∧ B ≤ W'.heap.size ∧ Below w.heap.size w W') ∧ Row W' g15 48 cs :=
  ⟨h.part rfl o hg, row_grown r15 hg (own_ne h.o1 r15)⟩
/-- One rest more. -/
theorem L2.rest {f : Nat → Int} (o1 : W.ownsRow B 2 1 vp (k + 1) (il p (k + 1))) (o2 : W.ownsRow B 48 13 vq k (nl r k)) (r7 : Row W g7 48 (nm u (dgs N))) (h7 : g7 < B) (hb : w.heap.size ≤ B) (h8 : B ≤ W.heap.size) (q : Below w.heap.size w W)
    {vq' : Value} (hf : f = dgs (r k)) (o : W'.ownsRow B 48 13 vq' (k + 1) (nl r k ++ (nm false f).toList)) (hg : W.grownBy W' vq.ownBlock) : L2 w B g7 u N p r (k + 1) vp vq' W' := by
  subst hf
  have hr : ∀ i, vq.ownBlock = some i → B ≤ i := fun i hi => (o2.lt i hi).1
  refine ⟨o1.kept hg (own_apart o1 o2), o, (hg.block g7 (by omega) fun e => ?_).trans r7, h7, hb, Nat.le_trans h8 hg.size, q.grown hg (by omega) fun i hi => by have := hr i hi; omega⟩
  have := hr g7 e.symm
  omega
end

/-- What the split hands back where something is divided. -/
def Gave (n : Nat) (zs : List Int) (w W : World) (e : Ending) : Prop := ∃ A' c', e = .returned (.tuple #[.slice A' n c', .int .i64 0]) ∧ Rd W A' n zs ∧ Below w.heap.size w W ∧ ∀ a, A' = some a → w.heap.size ≤ a.block
/-- What stands in memory while the parts are raised: the parts and the rests. -/
structure L3 (w : World) (n gp gq : Nat) (p r : Nat → Int) (W : World) : Prop where
  pc : ∀ t, t < n → W.cell? ⟨gp, t, none⟩ = some (.int .i64 (p t))
  pf : ∀ t, t < n → W.frozen? ⟨gp, t, none⟩ = false
  qc : ∀ t, t < n → W.rangeAt gq (t * 13) (nm false (dgs (r t))).toList
  qt : ∀ t, t < n → W.there gq (t * 13) 13
  ne : gp ≠ gq
  hp : w.heap.size ≤ gp
  hq : w.heap.size ≤ gq
  q : Below w.heap.size w W
section
variable {w : World} {B g7 : Nat} {u : Bool} {N : Int} {p r : Nat → Int} {n gp gq : Nat} {vp vq : Value} {W W' : World}
theorem own_block {base g cap : Nat} {e : TypeId} {size : Nat} {xs : List Value} (h : W.ownsRow base e size (.slice (some ⟨g, 0, none⟩) n cap) n xs) : ∃ cur, W.heap[g]? = some (.cells cur e (0, 0)) := by
  rcases h.2 with ⟨h', _⟩ | ⟨g', cap', cur, h', _, hg, _⟩
  · simp at h'
  · simp only [Value.slice.injEq, Option.some.injEq, Addr.mk.injEq, and_true, true_and] at h'
    obtain ⟨rfl, _⟩ := h'
    exact ⟨cur, hg⟩
theorem L2.to3 (h : L2 w B g7 u N p r n vp vq W) (hn : 0 < n) : ∃ gp cp gq cq, vp = .slice (some ⟨gp, 0, none⟩) n cp ∧ vq = .slice (some ⟨gq, 0, none⟩) n cq ∧ L3 w n gp gq p r W := by
  obtain ⟨gp, cp, e1, b1, l1⟩ := h.o1.form hn
  obtain ⟨gq, cq, e2, b2, l2⟩ := h.o2.form hn
  have o1 := h.o1
  have o2 := h.o2
  have ap := h.apart
  have hb := h.hb
  subst e1 e2
  obtain ⟨c1, k1⟩ := own_block o1
  obtain ⟨c2, k2⟩ := own_block o2
  have qc : ∀ t, t < n → W.rangeAt gq (t * 13) (nm false (dgs (r t))).toList := fun t ht j v hj => by
    have hlt : j < 13 := (List.getElem?_eq_some_iff.1 hj).1
    rw [o2.cellAt (t * 13 + j) (by omega), nl_get r ht hlt, hj]
  refine ⟨gp, cp, gq, cq, rfl, rfl, ⟨fun t ht => ?_, fun t _ => frozen_of_row W gp t c1 _ k1, qc, fun t ht j hj => ⟨(qc t ht).isSome j (by rw [nm_len]; exact hj), frozen_of_row W gq _ c2 _ k2⟩, ?_, by omega, by omega, h.q⟩⟩
  · rw [o1.cellAt t (by omega), il_get ht]
  · intro e
    rcases ap with e1 | e1
    · simp [Value.ownBlock] at e1
    · exact e1 (by simp [Value.ownBlock, e])
theorem L3.below (h : L3 w n gp gq p r W) (b : Below W.heap.size W W') : L3 w n gp gq p r W' := by
  have k1 : ∀ t, t < n → gp < W.heap.size := fun t ht => World.block_lt_of_cell? W ⟨gp, t, none⟩ (h.pc t ht)
  have k2 : ∀ t, t < n → gq < W.heap.size := fun t ht => World.block_lt_of_cell? W ⟨gq, t * 13 + 0, none⟩ (h.qc t ht 0 (.bool false) rfl)
  refine ⟨fun t ht => (b.cell (p := ⟨gp, t, none⟩) (k1 t ht)).trans (h.pc t ht), fun t ht => (b.frozen (p := ⟨gp, t, none⟩) (k1 t ht)).trans (h.pf t ht), fun t ht j v hj => (b.cell (p := ⟨gq, t * 13 + j, none⟩) (k2 t ht)).trans (h.qc t ht j v hj),
    fun t ht j hj => ?_, h.ne, h.hp, h.hq, h.q.trans (b.mono h.q.size)⟩
  rw [b.cell (p := ⟨gq, t * 13 + j, none⟩) (k2 t ht), b.frozen (p := ⟨gq, t * 13 + j, none⟩) (k2 t ht)]
  exact h.qt t ht j hj
theorem L3.digits (h : L3 w n gp gq p r W) {t : Nat} (ht : t < n) : W.rangeAt gq (t * 13 + 1) (ar (dgs (r t))).toList := fun j v hj => by
  have hlt : j < 12 := (List.getElem?_eq_some_iff.1 hj).1
  have e : (nm false (dgs (r t))).toList[1 + j]? = some v := by
    rw [← hj, Nat.add_comm]; rfl
  have := h.qc t ht (1 + j) v e
  rwa [← Nat.add_assoc] at this
theorem below_cells {B g : Nat} {a : World} (hg : B ≤ g) : ∀ (vs : List Value) (o : Nat) (w : World), Below B a w → Below B a (w.setCells g o vs)
  | [], _, _, h => h
  | v :: vs, o, _, h => below_cells hg vs (o + 1) _ (h.setCell hg v)
theorem L3.cast {p' r' : Nat → Int} (h : L3 w n gp gq p r W) (hp : ∀ t, t < n → p t = p' t) (hr : ∀ t, t < n → r t = r' t) : L3 w n gp gq p' r' W :=
  ⟨fun t ht => by rw [← hp t ht]; exact h.pc t ht, h.pf, fun t ht => by rw [← hr t ht]; exact h.qc t ht, h.qt, h.ne, h.hp, h.hq, h.q⟩
/-- One part anew. -/
theorem L3.raise (h : L3 w n gp gq p r W) {a : Nat} (ha : a < n) (x : Int) : L3 w n gp gq (fun t => if t = a then x else p t) r (W.setCell ⟨gp, a, none⟩ (.int .i64 x)) := by
  have far : ∀ o, (⟨gp, a, none⟩ : Addr) ≠ ⟨gq, o, none⟩ := fun o e => h.ne (by cases e; rfl)
  refine ⟨fun t ht => ?_, fun t ht => by rw [World.frozen?_setCell]; exact h.pf t ht, fun t ht j v hj => by rw [World.cell?_setCell_other (h := far _)]; exact h.qc t ht j v hj,
    fun t ht j hj => by rw [World.cell?_setCell_other (h := far _), World.frozen?_setCell]; exact h.qt t ht j hj, h.ne, h.hp, h.hq, h.q.setCell h.hp _⟩
  by_cases c : t = a
  · subst c
    rw [World.cell?_setCell_same (h := h.pc t ht), if_pos rfl]
  · rw [World.cell?_setCell_other (h := fun e => c (by cases e; rfl)), if_neg c]
    exact h.pc t ht
/-- One rest anew. -/
theorem L3.clear (h : L3 w n gp gq p r W) {a : Nat} (ha : a < n) : L3 w n gp gq p (fun t => if t = a then 0 else r t) (W.setCells gq (a * 13) (nm false (dgs 0)).toList) := by
  refine ⟨fun t ht => ?_, fun t ht => ?_, fun t ht => ?_, fun t ht => World.there_setCells (h.qt t ht) _ _ _, h.ne, h.hp, h.hq, ?_⟩
  · rw [World.cell?_setCells_out gq _ _ _ _ fun e => absurd e h.ne]
    exact h.pc t ht
  · rw [World.frozen?_setCells]
    exact h.pf t ht
  · by_cases c : t = a
    · subst c
      rw [if_pos rfl]
      exact World.rangeAt_setCells_same _ _ _ _ (by rw [nm_len]; exact h.qt t ht)
    · rw [if_neg c]
      refine World.rangeAt_setCells_apart (h.qc t ht) _ _ _ (.inr ?_)
      rw [nm_len, nm_len]
      omega
  · exact below_cells h.hq _ _ _ h.q
end
end Go.Proofs.Ytpfhkmppbochnaa
