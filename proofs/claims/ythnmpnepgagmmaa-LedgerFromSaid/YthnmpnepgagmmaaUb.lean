/- One struct of a row written whole: plain facts, whatever the struct; no program's function, no program's type. -/
import Derived.Test.YthnmpnepgagmmaaUa
namespace Go.Proofs.Ythnmpnepgagmmaa
open Go.RowKit Go.Shelf
set_option linter.unusedVariables false

theorem splice_set (L : List Value) (o : Nat) (v : Value) (r : List Value) (h : o + (r.length + 1) ≤ L.length) : splice (L.set o v) (o + 1) r = splice L o (v :: r) := by
  unfold splice
  have e1 : (L.set o v).take (o + 1) = L.take o ++ [v] := by
    rw [List.take_add_one, List.getElem?_set_self (by omega), List.take_set_of_le (Nat.le_refl _)]; rfl
  have e2 : (L.set o v).drop (o + 1 + r.length) = L.drop (o + (v :: r).length) := by
    rw [List.drop_set_of_lt (by omega), List.length_cons]; congr 1; omega
  rw [e1, e2, List.append_assoc]; rfl
theorem heap_setCells (b : Nat) (t : TypeId) : ∀ (vs : List Value) (o : Nat) (w : World) (cur : Array Value), w.heap[b]? = some (.cells cur t (0, 0)) → o + vs.length ≤ cur.size → (w.setCells b o vs).heap[b]? = some (.cells (splice cur.toList o vs).toArray t (0, 0))
  | [], o, w, cur, h, _ => by
    have e : splice cur.toList o [] = cur.toList := by simp [splice]
    rw [World.setCells, h, e]
  | v :: r, o, w, cur, h, hl => by
    rw [World.setCells]
    have h1 := heap_setCell_same w b o cur t v h
    have hl' : o + (r.length + 1) ≤ cur.size := hl
    rw [heap_setCells b t r (o + 1) _ _ h1 (by rw [Array.size_setIfInBounds]; omega), Array.toList_setIfInBounds, splice_set _ _ _ _ (by rw [Array.length_toList]; exact hl')]
theorem setCells_other (b : Nat) : ∀ (vs : List Value) (o : Nat) (w : World) (k : Nat), k ≠ b → (w.setCells b o vs).heap[k]? = w.heap[k]?
  | [], _, _, _, _ => rfl
  | v :: r, o, w, k, h => by
    rw [World.setCells, setCells_other b r (o + 1) _ k h]
    exact heap_setCell_other w _ k v h
theorem fr_cells {S : Nat → Prop} {b : Nat} (h : S b) : ∀ (vs : List Value) (o : Nat) (w : World), Fr S w (w.setCells b o vs)
  | [], _, w => Fr.refl _ _
  | v :: r, o, w => by
    rw [World.setCells]
    exact (Fr.set (p := ⟨b, o, none⟩) h v).same (fr_cells h r (o + 1) _)
section
variable {α : Type} {E : Elt α}
theorem gset_flat {L : List Value} {l : List α} {x y : α} {k n : Nat} (hl : l.length = n) (hk : k < n) (hL : L.take (n * E.N) = E.flat l) (hZ : n * E.N ≤ L.length) : (splice L (k * E.N) (E.cells y)).take (n * E.N) = E.flat (l.set k y) ∧ (splice L (k * E.N) (E.cells y)).length = L.length := by
  have h0 := E.len y
  have h1 : (E.flat (l.drop (k + 1))).length = n * E.N - (k * E.N + E.N) := by rw [gl_drop hl, Nat.succ_mul]
  have h3 := gl_take (E := E) hl (Nat.le_of_lt hk)
  have hm : k * E.N + E.N ≤ n * E.N := by rw [← Nat.succ_mul]; exact Nat.mul_le_mul_right E.N hk
  have hA : L.take (k * E.N) = E.flat (l.take k) := by
    have := congrArg (List.take (k * E.N)) hL
    rw [List.take_take, gflat_take, Nat.min_eq_left (by omega)] at this
    exact this
  have hB : (L.drop (k * E.N + E.N)).take (n * E.N - (k * E.N + E.N)) = E.flat (l.drop (k + 1)) := by
    rw [← gflat_drop, ← hL, Nat.succ_mul, List.drop_take]
  have hs : l.set k y = l.take k ++ y :: l.drop (k + 1) := by
    rw [List.set_eq_take_append_cons_drop, if_pos (by omega)]
  have e4 : E.flat (l.take k ++ y :: l.drop (k + 1)) = E.flat (l.take k) ++ (E.cells y ++ E.flat (l.drop (k + 1))) := by rw [gflat_app, gflat_cons]
  rw [hs, e4]
  generalize k * E.N = a at *
  generalize n * E.N = b at *
  generalize E.N = M at *
  refine ⟨?_, length_splice _ _ _ (by rw [h0]; omega)⟩
  rw [splice, hA, h0, List.take_append, h3, List.take_of_length_le (by rw [h3]; omega), List.take_append, h0, List.take_of_length_le (l := E.cells y) (by rw [h0]; omega), show b - a - M = b - (a + M) by omega, hB]
/-- One of a row of one's own written whole. -/
theorem gown_set {te : TypeId} {w : World} {B b n c : Nat} {l : List α} (h : E.Own te w B (.slice (some ⟨b, 0, none⟩) n c) l) {k : Nat} (hk : k < l.length) (y : α) : E.Own te (w.setCells b (k * E.N) (E.cells y)) B (.slice (some ⟨b, 0, none⟩) n c) (l.set k y) := by
  obtain ⟨A', c', e1, _⟩ := gown_form h
  obtain ⟨b', c1, cur, e2, hb, hh, hn, hm, hs, ht⟩ := h.2.resolve_left (fun c => by cases c.1)
  cases e1
  cases e2
  have hct : cur.toList.length = cur.size := Array.length_toList
  have hcs : l.length * E.N ≤ cur.toList.length := by rw [hct, hs]; exact Nat.mul_le_mul_right E.N hn
  obtain ⟨r1, r2⟩ := gset_flat (E := E) (L := cur.toList) (y := y) (x := y) rfl hk ht hcs
  have hk1 : k * E.N + E.N ≤ l.length * E.N := by rw [← Nat.succ_mul]; exact Nat.mul_le_mul_right E.N hk
  refine ⟨by rw [gflat_len], .inr ⟨b, c, _, by rw [List.length_set], hb, heap_setCells b te _ _ w cur hh (by rw [E.len]; omega), by rw [List.length_set]; exact hn, hm, ?_, ?_⟩⟩
  · rw [List.size_toArray, r2, hct, hs]
  · rw [List.length_set]; exact r1
theorem gown_there {te : TypeId} {w : World} {B b n c : Nat} {l : List α} (h : E.Own te w B (.slice (some ⟨b, 0, none⟩) n c) l) {k : Nat} {x : α} (hx : l[k]? = some x) (y : α) : w.there b (k * E.N) (E.cells y).toArray.size := fun j hj => by
  have hj' : j < E.N := by rw [List.size_toArray, E.len] at hj; exact hj
  refine ⟨?_, gown_fz h _⟩
  rw [gown_at h hx hj', List.getElem?_eq_getElem (by rw [E.len]; exact hj')]
  rfl
end
end Go.Proofs.Ythnmpnepgagmmaa
