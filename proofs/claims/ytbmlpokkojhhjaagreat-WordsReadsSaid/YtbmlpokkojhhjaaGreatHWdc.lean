/- What the document's ReadReply keeps: a reader of its own, a reply in a block of its own, three rows that grow. -/
import Derived.Test.YtbmlpokkojhhjaaGreatG11
import Derived.Test.YtbmlpokkojhhjaaGreatG31
import Derived.Test.YtbmlpokkojhhjaaGreatG32
namespace Go.Proofs.YtbmlpokkojhhjaaGreat.Wt
open Go.RowKit Go.Shelf
set_option linter.unusedVariables false
set_option linter.unusedSimpArgs false

theorem own_te15 {α : Type} {E : Elt α} {te te' : TypeId} {W : World} {B k : Nat} {v : Value} {xs : List α} {cs : Array Value} {f : Nat × Nat} (h : E.Own te W B v xs) (hk : v.ownBlock = some k) (hb : W.heap[k]? = some (.cells cs te' f)) : te = te' := by
  obtain ⟨cur, hh⟩ := gown_cells h hk
  rw [hb] at hh
  injection hh with h3
  injection h3 with _ h4 _
  exact h4.symm
structure Tp (w : World) (gc n0 : Nat) (A0 : Option Addr) (W : World) (v : Rv) (ts : List Tw) (gs as' : List Int) (bs : List Int) (e : Int) : Prop where
  rq : ∃ A n k, Rr W (w.heap.size + 1) A n k bs e ∧ ∀ a, A = some a → ∃ a0, A0 = some a0 ∧ a.block = a0.block
  old : ∀ a0, A0 = some a0 → 0 < n0 → a0.block < w.heap.size
  len : bs.length ≤ n0
  new : w.heap.size + 1 < gc
  box : ERv.Bx 40 W gc v
  res : ∃ z, ERv.Bx 40 W w.heap.size z
  bel : Below w.heap.size w W
  by' : By bs
  ot : ETw.Own 72 W (w.heap.size + 2) (.slice v.tA v.tl v.tc) ts
  og : E6w.Own 26 W (w.heap.size + 2) (.slice v.gA v.gl v.gc) gs
  oa : E3w.Own 25 W (w.heap.size + 2) (.slice v.aA v.al v.ac) as'
section
variable {w W W' : World} {gc n0 : Nat} {A0 : Option Addr} {v v' : Rv} {ts : List Tw} {gs as' bs bs' : List Int} {e e' : Int}
/-- What stays where the blocks that it stands in do. -/
theorem Tp.far (h : Tp w gc n0 A0 W v ts gs as' bs e) (f : ∀ j, j < w.heap.size ∨ j = w.heap.size + 1 → W'.heap[j]? = W.heap[j]?) : ∃ A n k, Rr W' (w.heap.size + 1) A n k bs e ∧ ∀ a, A = some a → ∃ a0, A0 = some a0 ∧ a.block = a0.block := by
  obtain ⟨A, n, m, rq, hA⟩ := h.rq
  refine ⟨A, n, m, ⟨(f _ (.inr rfl)).trans rq.b, ⟨rq.r.1, fun hn => ?_⟩, rq.nc⟩, hA⟩
  obtain ⟨b, o, e1, hc⟩ := rq.r.2 hn
  refine ⟨b, o, e1, fun i hi => ?_⟩
  obtain ⟨a0, h1, h2⟩ := hA _ e1
  have hb : b < w.heap.size := by
    have := h.old a0 h1 (by have := rq.r.1; have := h.len; omega)
    have h3 : b = a0.block := h2
    omega
  have := hc i hi
  simp only [World.cell?] at this ⊢
  rw [f b (.inl hb)]
  exact this
theorem Tp.call (h : Tp w gc n0 A0 W v ts gs as' bs e) {A : Option Addr} (hA : ∀ a, A = some a → ∃ a0, A0 = some a0 ∧ a.block = a0.block) (d : Did W (w.heap.size + 1) A bs' e' W') (hl : bs'.length ≤ bs.length) (hy : By bs') : Tp w gc n0 A0 W' v ts gs as' bs' e' := by
  obtain ⟨⟨A', n, k, rq, hA'⟩, gr⟩ := d
  obtain ⟨z, hz⟩ := h.res
  have hn := h.new
  have keep : ∀ k x, k ≠ w.heap.size + 1 → ERv.Bx 40 W k x → ERv.Bx 40 W' k x := fun k x hk hb => (gr.block k (Array.getElem?_eq_some_iff.1 hb).1 (by simp; omega)).trans hb
  have ow : ∀ k, w.heap.size + 2 ≤ k → k < W.heap.size → W'.heap[k]? = W.heap[k]? := fun k h1 h2 => gr.block k h2 (by simp; omega)
  refine ⟨⟨A', n, k, rq, fun a ha => ?_⟩, h.old, Nat.le_trans hl h.len, h.new, keep gc v (by omega) h.box, ⟨z, keep _ z (by omega) hz⟩, h.bel.grown gr h.bel.size (fun j hj => by cases hj; omega), hy, own_keep15 h.ot ow, own_keep15 h.og ow, own_keep15 h.oa ow⟩
  obtain ⟨a1, h1, h2⟩ := hA' a ha
  obtain ⟨a0, h3, h4⟩ := hA a1 h1
  exact ⟨a0, h3, h2.trans h4⟩
theorem Tp.below (h : Tp w gc n0 A0 W v ts gs as' bs e) (q : Below W.heap.size W W') : Tp w gc n0 A0 W' v ts gs as' bs e := by
  obtain ⟨A, n, k, rq, hA⟩ := h.rq
  exact h.call hA ⟨⟨A, n, k, rq.below q, like_self _⟩, below_grown q _⟩ (Nat.le_refl _) h.by'
/-- A cell of the reply's box written over. -/
theorem Tp.cell (h : Tp w gc n0 A0 W v ts gs as' bs e) {j : Nat} {u : Value} (eq : ERv.cells v' = (ERv.cells v).set j u) {ts' : List Tw} {gs' as'' : List Int}
    (h1 : ETw.Own 72 W (w.heap.size + 2) (.slice v'.tA v'.tl v'.tc) ts') (h2 : E6w.Own 26 W (w.heap.size + 2) (.slice v'.gA v'.gl v'.gc) gs') (h3 : E3w.Own 25 W (w.heap.size + 2) (.slice v'.aA v'.al v'.ac) as'') :
    Tp w gc n0 A0 (W.setCell ⟨gc, j, none⟩ u) v' ts' gs' as'' bs e := by
  obtain ⟨z, hz⟩ := h.res
  have hn := h.new
  have oth : ∀ k, k ≠ gc → (W.setCell ⟨gc, j, none⟩ u).heap[k]? = W.heap[k]? := fun k hk => heap_setCell_other _ _ _ _ hk
  refine ⟨h.far (fun k hk => oth k (by omega)), h.old, h.len, h.new, gbx_put h.box eq, ⟨z, (oth _ (by omega)).trans hz⟩, h.bel.setCell (show w.heap.size ≤ gc by omega) _, h.by', ?_, ?_, ?_⟩
  · exact gown_same h1 fun k hk => oth k fun e => by subst e; exact absurd (own_te15 h1 hk h.box) (by decide)
  · exact gown_same h2 fun k hk => oth k fun e => by subst e; exact absurd (own_te15 h2 hk h.box) (by decide)
  · exact gown_same h3 fun k hk => oth k fun e => by subst e; exact absurd (own_te15 h3 hk h.box) (by decide)
/-- Where a row in blocks of its own grows: all but that row. -/
theorem Tp.row (h : Tp w gc n0 A0 W v ts gs as' bs e) {r : Value} (gr : W.grownBy W' r.ownBlock) (hr : ∀ k, r.ownBlock = some k → w.heap.size + 2 ≤ k ∧ ∃ cs te f, W.heap[k]? = some (.cells cs te f) ∧ te ≠ 40) :
    (∃ A n k, Rr W' (w.heap.size + 1) A n k bs e ∧ ∀ a, A = some a → ∃ a0, A0 = some a0 ∧ a.block = a0.block) ∧ ERv.Bx 40 W' gc v ∧ (∃ z, ERv.Bx 40 W' w.heap.size z) ∧ Below w.heap.size w W' := by
  obtain ⟨z, hz⟩ := h.res
  have hn := h.new
  have hs := h.bel.size
  obtain ⟨A, n, m, rq, hA⟩ := h.rq
  have hg := rq.lt
  refine ⟨h.far fun k hk => ?_, (gr.block gc (tbx_lt15 h.box) fun e => ?_).trans h.box, ⟨z, (gr.block _ (tbx_lt15 hz) fun e => ?_).trans hz⟩, h.bel.grown gr hs fun j hj => ?_⟩
  · exact gr.block k (by omega) fun e => by have := (hr k e.symm).1; omega
  · obtain ⟨cs, te, f, hh, ne⟩ := (hr gc e.symm).2
    have hb := h.box
    unfold Elt.Bx at hb
    rw [hb] at hh
    injection hh with h3
    injection h3 with _ h4 _
    exact ne h4.symm
  · have := (hr _ e.symm).1; omega
  · have := (hr j hj).1; omega
/-- A cell of a block that is none of these. -/
theorem Tp.other (h : Tp w gc n0 A0 W v ts gs as' bs e) {gt j : Nat} {u : Value} (h1 : w.heap.size + 2 ≤ gt) (h2 : gt ≠ gc) (h3 : ∀ k, (Value.slice v.tA v.tl v.tc).ownBlock = some k → k ≠ gt) (h4 : ∀ k, (Value.slice v.gA v.gl v.gc).ownBlock = some k → k ≠ gt) (h5 : ∀ k, (Value.slice v.aA v.al v.ac).ownBlock = some k → k ≠ gt) :
    Tp w gc n0 A0 (W.setCell ⟨gt, j, none⟩ u) v ts gs as' bs e := by
  obtain ⟨z, hz⟩ := h.res
  have oth : ∀ k, k ≠ gt → (W.setCell ⟨gt, j, none⟩ u).heap[k]? = W.heap[k]? := fun k hk => heap_setCell_other _ _ _ _ hk
  exact ⟨h.far (fun k hk => oth k (by omega)), h.old, h.len, h.new, (oth gc fun e => h2 e.symm).trans h.box, ⟨z, (oth _ (by omega)).trans hz⟩, h.bel.setCell (show w.heap.size ≤ gt by omega) _, h.by', gown_same h.ot fun k hk => oth k (h3 k hk), gown_same h.og fun k hk => oth k (h4 k hk), gown_same h.oa fun k hk => oth k (h5 k hk)⟩
/-- The same, what stands there told part by part (behind an append that made a row anew). -/
theorem tp_cell15 (rq : ∃ A n k, Rr W (w.heap.size + 1) A n k bs e ∧ ∀ a, A = some a → ∃ a0, A0 = some a0 ∧ a.block = a0.block) (old : ∀ a0, A0 = some a0 → 0 < n0 → a0.block < w.heap.size) (len : bs.length ≤ n0) (new : w.heap.size + 1 < gc)
    (box : ERv.Bx 40 W gc v) (res : ∃ z, ERv.Bx 40 W w.heap.size z) (bel : Below w.heap.size w W) (hy : By bs) {j : Nat} {u : Value} (eq : ERv.cells v' = (ERv.cells v).set j u) {ts' : List Tw} {gs' as'' : List Int}
    (h1 : ETw.Own 72 W (w.heap.size + 2) (.slice v'.tA v'.tl v'.tc) ts') (h2 : E6w.Own 26 W (w.heap.size + 2) (.slice v'.gA v'.gl v'.gc) gs') (h3 : E3w.Own 25 W (w.heap.size + 2) (.slice v'.aA v'.al v'.ac) as'') :
    Tp w gc n0 A0 (W.setCell ⟨gc, j, none⟩ u) v' ts' gs' as'' bs e := by
  obtain ⟨z, hz⟩ := res
  have oth : ∀ k, k ≠ gc → (W.setCell ⟨gc, j, none⟩ u).heap[k]? = W.heap[k]? := fun k hk => heap_setCell_other _ _ _ _ hk
  obtain ⟨A, n, m, rr, hA⟩ := rq
  refine ⟨⟨A, n, m, ⟨(oth _ (by omega)).trans rr.b, ⟨rr.r.1, fun hn => ?_⟩, rr.nc⟩, hA⟩, old, len, new, gbx_put box eq, ⟨z, (oth _ (by omega)).trans hz⟩, bel.setCell (show w.heap.size ≤ gc by omega) _, hy, ?_, ?_, ?_⟩
  · obtain ⟨b, o, e1, hc⟩ := rr.r.2 hn
    refine ⟨b, o, e1, fun i hi => ?_⟩
    obtain ⟨a0, q1, q2⟩ := hA _ e1
    have hb : b < w.heap.size := by
      have := old a0 q1 (by have := rr.r.1; omega)
      have h3 : b = a0.block := q2
      omega
    have := hc i hi
    simp only [World.cell?] at this ⊢
    rw [oth b (by omega)]
    exact this
  · exact gown_same h1 fun k hk => oth k fun e => by subst e; exact absurd (own_te15 h1 hk box) (by decide)
  · exact gown_same h2 fun k hk => oth k fun e => by subst e; exact absurd (own_te15 h2 hk box) (by decide)
  · exact gown_same h3 fun k hk => oth k fun e => by subst e; exact absurd (own_te15 h3 hk box) (by decide)
theorem own_apart15 {α β : Type} {E : Elt α} {E' : Elt β} {te te' : TypeId} {B B' k : Nat} {x y : Value} {xs : List α} {ys : List β} (h : E.Own te W B x xs) (h' : E'.Own te' W B' y ys) (ne : te ≠ te') (hk : x.ownBlock = some k) : ¬ (some k = y.ownBlock) := fun e => by
  obtain ⟨cur, hh⟩ := gown_cells h' e.symm
  exact ne (own_te15 h hk hh)
/-- Behind an append to the trades, and its store. -/
theorem Tp.appT (h : Tp w gc n0 A0 W v ts gs as' bs e) (gr : W.grownBy W' (Value.slice v.tA v.tl v.tc).ownBlock) {Z : Option Addr} {m z : Nat} {ts' : List Tw} (o : ETw.Own 72 W' (w.heap.size + 2) (.slice Z m z) ts') :
    ERv.Bx 40 W' gc v ∧ Tp w gc n0 A0 (W'.setCell ⟨gc, 4, none⟩ (.slice Z m z)) { v with tA := Z, tl := m, tc := z } ts' gs as' bs e := by
  obtain ⟨rq, box, res, bel⟩ := h.row gr fun k hk => ⟨(gown_lt h.ot hk).1, by obtain ⟨cur, hh⟩ := gown_cells h.ot hk; exact ⟨_, _, _, hh, by decide⟩⟩
  exact ⟨box, tp_cell15 rq h.old h.len h.new box res bel h.by' rfl o (gown_same h.og fun k hk => gr.block k (gown_lt h.og hk).2 (own_apart15 h.og h.ot (by decide) hk)) (gown_same h.oa fun k hk => gr.block k (gown_lt h.oa hk).2 (own_apart15 h.oa h.ot (by decide) hk))⟩
theorem Tp.appG (h : Tp w gc n0 A0 W v ts gs as' bs e) (gr : W.grownBy W' (Value.slice v.gA v.gl v.gc).ownBlock) {Z : Option Addr} {m z : Nat} {gs' : List Int} (o : E6w.Own 26 W' (w.heap.size + 2) (.slice Z m z) gs') :
    ERv.Bx 40 W' gc v ∧ Tp w gc n0 A0 (W'.setCell ⟨gc, 5, none⟩ (.slice Z m z)) { v with gA := Z, gl := m, gc := z } ts gs' as' bs e := by
  obtain ⟨rq, box, res, bel⟩ := h.row gr fun k hk => ⟨(gown_lt h.og hk).1, by obtain ⟨cur, hh⟩ := gown_cells h.og hk; exact ⟨_, _, _, hh, by decide⟩⟩
  exact ⟨box, tp_cell15 rq h.old h.len h.new box res bel h.by' rfl (gown_same h.ot fun k hk => gr.block k (gown_lt h.ot hk).2 (own_apart15 h.ot h.og (by decide) hk)) o (gown_same h.oa fun k hk => gr.block k (gown_lt h.oa hk).2 (own_apart15 h.oa h.og (by decide) hk))⟩
theorem Tp.appA (h : Tp w gc n0 A0 W v ts gs as' bs e) (gr : W.grownBy W' (Value.slice v.aA v.al v.ac).ownBlock) {Z : Option Addr} {m z : Nat} {as'' : List Int} (o : E3w.Own 25 W' (w.heap.size + 2) (.slice Z m z) as'') :
    ERv.Bx 40 W' gc v ∧ Tp w gc n0 A0 (W'.setCell ⟨gc, 6, none⟩ (.slice Z m z)) { v with aA := Z, al := m, ac := z } ts gs as'' bs e := by
  obtain ⟨rq, box, res, bel⟩ := h.row gr fun k hk => ⟨(gown_lt h.oa hk).1, by obtain ⟨cur, hh⟩ := gown_cells h.oa hk; exact ⟨_, _, _, hh, by decide⟩⟩
  exact ⟨box, tp_cell15 rq h.old h.len h.new box res bel h.by' rfl (gown_same h.ot fun k hk => gr.block k (gown_lt h.ot hk).2 (own_apart15 h.ot h.oa (by decide) hk)) (gown_same h.og fun k hk => gr.block k (gown_lt h.og hk).2 (own_apart15 h.og h.oa (by decide) hk)) o⟩
end
end Go.Proofs.YtbmlpokkojhhjaaGreat.Wt
