/- An iterator over what stands in a map, by rising numbers: plain facts; no program's function. -/
import Derived.Test.YthnmpnepgagmmaaMi
import Derived.Test.YthnmpnepgagmmaaMj
import Derived.Test.YthnmpnepgagmmaaRi
import Derived.Deep.RegionHeld
import Derived.Shelf.Abstract
import Derived.RangeFuncBound
import Derived.RangeFuncCalls
import Derived.RangeFuncLeaves
namespace Go.Proofs.Ythnmpnepgagmmaa
open Go.RowKit Go.Shelf
set_option linter.unusedVariables false
set_option linter.unusedSimpArgs false
set_option linter.unusedSectionVars false

theorem gwp_alloc {P : Program} {o : Oper} {a : Act} {w : World} {K : Act → World → Prop} {Q : Exit → Act → World → Prop} (ty : TypeId) (ho : o.op = .alloc ty) {cs : Array Value} (hz : ∀ w, (zeroValue ty).run P w = .ok (.agg cs) w)
    (h : K (a.put o.dst (.pointer (some ⟨w.heap.size, 0, none⟩))) (w.alloc (.cells cs ty))) : o.wp P a w K Q := by
  unfold Oper.wp execOp
  simp [ho, Instr.alloc, hz, newVar, Result.andThen, go_sem]
  exact h
theorem gwp_store {α : Type} {E : Elt α} {P : Program} {ts te : TypeId} (T : EltT P E ts te) {o : Oper} {a : Act} {w : World} {K : Act → World → Prop} {Q : Exit → Act → World → Prop} (x y : Operand) (ho : o.op = .store te x y) (s : α) {t : α} (g : Nat) (hb : E.Bx te w g t) (hx : a.eval x = .pointer (some ⟨g, 0, none⟩)) (hy : a.eval y = .agg (E.cells s).toArray)
    (h : K (a.put o.dst undef) (w.setRow g (E.cells s).toArray)) : o.wp P a w K Q :=
  wp_store_row te x y ho g (E.cells s).toArray hx hy te (E.cells t).toArray hb (by rw [gsize T, List.size_toArray, E.len]) (by rw [List.size_toArray, List.size_toArray, E.len, E.len]) (gall_one s) h
theorem wlIn_gload {α : Type} {E : Elt α} {P : Program} {ts te : TypeId} (T : EltT P E ts te) {n : Nat} {ops : Array Oper} {rest : List Oper} {a : Act} {w : World} {Q : Exit → Act → World → Prop} {d : Option Nat} {x : Operand} {ty : TypeId} {ps : String} {af : Array Edge} {gd : Option (Nat × Bool)} {s : α} (b o : Nat) (hb : w.rangeAt b o (E.cells s))
    (hw : Region.wanted ⟨d, .load te x, ty, ps, af, gd⟩ (yielded ops a.tmps) = true) (hx : a.eval x = .pointer (some ⟨b, o, none⟩)) (h : wpListIn Fence.wide n P ops Q rest (a.put d (.agg (E.cells s).toArray)) w) : wpListIn Fence.wide n P ops Q (⟨d, .load te x, ty, ps, af, gd⟩ :: rest) a w :=
  wpListIn_step fun K hK => by
    rw [if_pos hw]
    obtain ⟨fs, hu⟩ := T.row
    exact op_wide (fun c e => by cases e) (wp_load_mid te x rfl b o hx (E.cells s) _ hb hu rfl (by rw [gsize T, E.len]) (hK _ _ h))
theorem gwp_load {α : Type} {E : Elt α} {P : Program} {ts te : TypeId} (T : EltT P E ts te) {o : Oper} {a : Act} {w : World} {K : Act → World → Prop} {Q : Exit → Act → World → Prop} (x : Operand) (ho : o.op = .load te x) {s : α} (b k : Nat) (hb : w.rangeAt b k (E.cells s)) (hx : a.eval x = .pointer (some ⟨b, k, none⟩))
    (h : K (a.put o.dst (.agg (E.cells s).toArray)) w) : o.wp P a w K Q := by
  obtain ⟨fs, hu⟩ := T.row
  exact wp_load_mid te x ho b k hx (E.cells s) _ hb hu rfl (by rw [gsize T, E.len]) h
/-- A struct is told by its cells. -/
def Elt.Inj {α : Type} (E : Elt α) : Prop := ∀ x y, E.cells x = E.cells y → x = y
theorem injA : EA.Inj := fun x y h => by
  obtain ⟨a, b, c, d⟩ := x
  obtain ⟨a', b', c', d'⟩ := y
  simp only [EA, Ac.cells, List.cons.injEq, Value.int.injEq, Value.bool.injEq, true_and, and_true] at h
  obtain ⟨rfl, rfl, rfl, rfl⟩ := h
  rfl
theorem injP : EP.Inj := fun x y h => by
  obtain ⟨a, b, c, d⟩ := x
  obtain ⟨a', b', c', d'⟩ := y
  simp only [EP, Po.cells, List.cons.injEq, Value.int.injEq, Value.bool.injEq, true_and, and_true] at h
  obtain ⟨rfl, rfl, rfl, rfl⟩ := h
  rfl
theorem bx_uniq9 {α : Type} {E : Elt α} {te : TypeId} {W : World} {X : Nat} {x y : α} (i : E.Inj) (h : E.Bx te W X x) (k : E.Bx te W X y) : x = y := by
  have e := Option.some.inj (h.symm.trans k)
  injection e with e _ _
  exact i _ _ (by simpa using e)
/-- Those told: by rising numbers, all whose number is not 0. -/
structure Ris {α : Type} (num : α → Int) (l ls : List α) : Prop where
  asc : ls.Pairwise fun x y => num x < num y
  mem : ∀ x, x ∈ ls ↔ x ∈ l ∧ 0 < num x
section
variable {α : Type} {num : α → Int} {l ls : List α}
theorem Ris.lt (R : Ris num l ls) {i j : Nat} {x y : α} (hx : ls[i]? = some x) (hy : ls[j]? = some y) (h : i < j) : num x < num y := by
  obtain ⟨h1, rfl⟩ := List.getElem?_eq_some_iff.1 hx
  obtain ⟨h2, rfl⟩ := List.getElem?_eq_some_iff.1 hy
  exact List.pairwise_iff_getElem.1 R.asc i j h1 h2 h
theorem Ris.best (R : Ris num l ls) (k : Nat) {told : Int} (ht : 0 ≤ told) (h1 : ∀ (j : Nat) (y : α), ls[j]? = some y → (told < num y ↔ k ≤ j)) {o : Option α} (h : Best told num l o) : o = ls[k]? := by
  cases o with
  | none =>
    cases e : ls[k]? with
    | none => rfl
    | some y =>
      have hy := (R.mem y).1 (List.mem_of_getElem? e)
      exact absurd ((h1 k y e).2 (Nat.le_refl _)) (h y hy.1)
  | some y =>
    obtain ⟨a, b, c⟩ := h
    obtain ⟨j, hj⟩ := List.getElem?_of_mem ((R.mem y).2 ⟨a, by omega⟩)
    have hk := (h1 j y hj).1 b
    have hl := (List.getElem?_eq_some_iff.1 hj).1
    obtain ⟨z, hz⟩ : ∃ z, ls[k]? = some z := ⟨ls[k]'(by omega), List.getElem?_eq_getElem _⟩
    rcases Nat.lt_or_ge k j with q | q
    · have := R.lt hz hj q
      have := c z ((R.mem z).1 (List.mem_of_getElem? hz)).1 ((h1 k z hz).2 (Nat.le_refl _))
      omega
    · obtain rfl : k = j := by omega
      rw [hj]
theorem Ris.first (R : Ris num l ls) {o : Option α} (h : Best 0 num l o) : o = ls[0]? :=
  R.best 0 (Int.le_refl _) (fun j y hy => ⟨fun _ => Nat.zero_le _, fun _ => ((R.mem y).1 (List.mem_of_getElem? hy)).2⟩) h
theorem Ris.next (R : Ris num l ls) {k : Nat} {x : α} (hx : ls[k]? = some x) {o : Option α} (h : Best (num x) num l o) : o = ls[k + 1]? := by
  refine R.best (k + 1) (Int.le_of_lt ((R.mem x).1 (List.mem_of_getElem? hx)).2) (fun j y hy => ⟨fun c => ?_, fun c => R.lt hx hy (by omega)⟩) h
  rcases Nat.lt_or_ge k j with q | q
  · exact q
  · rcases Nat.lt_or_ge j k with q2 | q2
    · have := R.lt hy hx q2; omega
    · obtain rfl : j = k := by omega
      rw [hx] at hy; cases hy; omega
theorem Ris.pos {E : Elt α} {te : TypeId} (R : Ris num l ls) (i : E.Inj) {W : World} {X k : Nat} {y : α} (hx : E.Bx te W X y) (hk : ls[k]? = some y) : ls.findIdx (fun z => @decide (E.Bx te W X z) (Classical.propDecidable _)) = k := by
  obtain ⟨hl, hg⟩ := List.getElem?_eq_some_iff.1 hk
  rw [List.findIdx_eq hl]
  refine ⟨by rw [hg]; simpa using hx, fun j hj => ?_⟩
  simp only [decide_eq_false_iff_not]
  intro c
  have e := bx_uniq9 i c hx
  have := R.lt (List.getElem?_eq_getElem (by omega)) hk hj
  rw [e] at this
  omega
end
/-- Within the iterator: what it looks at, and a block of its own with the one told last. -/
structure ItN {α : Type} (E : Elt α) (te : TypeId) (S : World → Nat → Prop) (N N0 : Nat) (T : Nat → Prop) (W0 : World) (X : Nat) (y : α) (W : World) : Prop where
  same : ∀ k, T k → W.heap[k]? = W0.heap[k]?
  lt : ∀ k, T k → k < W0.heap.size ∧ (k < N0 ∨ ∃ cs t f, W0.heap[k]? = some (.cells cs t f))
  up : W0.heap.size ≤ W.heap.size
  xb : E.Bx te W X y
  sz : N ≤ W.heap.size
  wf : ∀ k, S W k → k < W.heap.size
  ap : ∀ k, (T k ∨ k = X) → ¬ S W k
  nX : ∀ k, T k → k ≠ X
section
variable {α : Type} {E : Elt α} {te : TypeId} {S : World → Nat → Prop} {N N0 X : Nat} {T : Nat → Prop} {W0 W W' : World} {y : α}
theorem ItN.below (st : Still S N) (h : ItN E te S N N0 T W0 X y W) (q : Below W.heap.size W W') : ItN E te S N N0 T W0 X y W' := by
  have s := st W W' h.sz (fun k hk => q.block k (Nat.lt_of_lt_of_le hk h.sz))
  exact ⟨fun k hk => (q.block k (Nat.lt_of_lt_of_le (h.lt k hk).1 h.up)).trans (h.same k hk), h.lt, Nat.le_trans h.up q.size, gbx_below h.xb q, Nat.le_trans h.sz q.size, fun k hk => Nat.lt_of_lt_of_le (h.wf k (s k hk)) q.size, fun k hk c => h.ap k hk (s k c), h.nX⟩
theorem ItN.kept (h : ItN E te S N N0 T W0 X y W) (k : Kn N0 S W W') : ItN E te S N N0 T W0 X y W' := by
  obtain ⟨h1, h2, h3, h4⟩ := k h.wf
  have xl := (Array.getElem?_eq_some_iff.1 h.xb).1
  refine ⟨fun j hj => (h4 j (Nat.lt_of_lt_of_le (h.lt j hj).1 h.up) (h.ap j (.inl hj)) ((h.lt j hj).2.imp id fun ⟨cs, t, f, e⟩ => ⟨cs, t, f, (h.same j hj).trans e⟩)).trans (h.same j hj), h.lt, Nat.le_trans h.up h3.size,
    (h4 X xl (h.ap X (.inr rfl)) (.inr ⟨_, _, _, h.xb⟩)).trans h.xb, Nat.le_trans h.sz h3.size, h1, fun j hj c => ?_, h.nX⟩
  rcases h2 j c with c | c
  · exact h.ap j hj c
  · rcases hj with hj | rfl
    · have := (h.lt j hj).1; have := h.up; omega
    · omega
theorem ItN.put (st : Still S N) (h : ItN E te S N N0 T W0 X y W) (hX : N ≤ X) (z : α) : ItN E te S N N0 T W0 X z (W.setRow X (E.cells z).toArray) := by
  have f : Fr (fun k => k = X) W (W.setRow X (E.cells z).toArray) := fr_row (S := fun k => k = X) rfl _
  have s := st W (W.setRow X (E.cells z).toArray) h.sz (fun k hk => setRow_other W X k _ (by omega))
  exact ⟨fun k hk => (f.at' k (Nat.lt_of_lt_of_le (h.lt k hk).1 h.up) (h.nX k hk)).trans (h.same k hk), h.lt, Nat.le_trans h.up f.size, gbx_set h.xb, Nat.le_trans h.sz f.size, fun k hk => Nat.lt_of_lt_of_le (h.wf k (s k hk)) f.size, fun k hk c => h.ap k hk (s k c), h.nX⟩
theorem ItN.calm {β : Type} {B : Nat} {J : β → World → Prop} (cJ : Calm B S J) (h : ItN E te S N N0 T W0 X y W) (hX : B ≤ X) (z : α) {s : β} (j : J s W) : J s (W.setRow X (E.cells z).toArray) := by
  refine cJ s W _ j (below_row0 (Below.refl B W) hX) (fun k hk hc => setRow_other W X k _ (fun e => ?_))
  subst e
  exact h.ap k (.inr rfl) hk
theorem same_cell {W0 W : World} {C : Nat} {v : Value} (h : W.heap[C]? = W0.heap[C]?) (c : W0.cell? ⟨C, 0, none⟩ = some v) : W.cell? ⟨C, 0, none⟩ = some v := by rw [← c]; exact World.cell?_of_block h
end
end Go.Proofs.Ythnmpnepgagmmaa
