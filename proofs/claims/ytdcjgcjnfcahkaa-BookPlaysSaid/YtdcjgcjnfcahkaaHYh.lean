/- Plain facts of an order that comes, by its kind; a book begun. -/
import Derived.Test.YtdcjgcjnfcahkaaHYg
import Derived.Test.YtdcjgcjnfcahkaaHYe
import Derived.Test.YtdcjgcjnfcahkaaHYu
namespace Go.Proofs.Ytdcjgcjnfcahkaa
open Go.RowKit Go.Shelf
set_option linter.unusedVariables false

section
variable {S : Sd} {o : Or} {k : Int}
/-- Which answers. -/
theorem pa_zero (iv : InvB S) (h : placeA S o k = 0) : mayO o = true ∧ (k = 1 ∨ k = 2 ∨ k = 3 ∨ k = 4) ∧ takeA S o.nu = 7 := by
  have hm := pa_may h
  have hk : knownK k = true := by
    cases c : knownK k
    · rw [pa_arg (.inr c)] at h; cases h
    · rfl
  refine ⟨hm, known_k hk, ?_⟩
  rcases take_two S o.nu with c | c
  · rw [pa_two hm hk c] at h; cases h
  · exact c
theorem rk (k : Int) : restK k = (k == 1 || k == 4) := rfl
/-- KindAll. -/
theorem pa_all (iv : InvB S) (h : placeA S o 3 = 0) : o.le ≤ sumR (!o.bu) (S (!o.bu)) o.pr o.ac ∧ (placeP S o 3).fi = o.le ∧ (placeP S o 3).lf = 0 := by
  obtain ⟨hm, _, ht⟩ := pa_zero iv h
  have hml := may_le hm
  obtain ⟨e1, e2⟩ := pa_yes h
  rw [pa_else hm rfl ht] at h
  have hr : o.le ≤ sumR (!o.bu) (S (!o.bu)) o.pr o.ac := by
    by_cases c : sumR (!o.bu) (S (!o.bu)) o.pr o.ac < o.le
    · rw [if_pos ⟨rfl, c⟩] at h; cases h
    · omega
  obtain ⟨c1, c2⟩ := come_no (S := S) (o := o) (r := restK 3) (fun c => by have := c.2; exact absurd this (by decide))
  rw [e2, c2]
  exact ⟨hr, (meet_reach o _ o.le (iv.inv _) (by omega)).1 hr, rfl⟩
/-- KindPost. -/
theorem pa_post (iv : InvB S) (h : placeA S o 4 = 0) : sumR (!o.bu) (S (!o.bu)) o.pr o.ac = 0 ∧ (placeP S o 4).fi = 0 ∧ (placeP S o 4).lf = o.le ∧ (placeP S o 4).td = [] := by
  obtain ⟨hm, _, ht⟩ := pa_zero iv h
  have hml := may_le hm
  obtain ⟨e1, e2⟩ := pa_yes h
  rw [pa_else hm rfl ht, if_neg (by omega)] at h
  have ge := sumR_ge o.pr o.ac (iv.inv (!o.bu))
  have hr : sumR (!o.bu) (S (!o.bu)) o.pr o.ac = 0 := by
    by_cases c : 0 < sumR (!o.bu) (S (!o.bu)) o.pr o.ac
    · rw [if_pos ⟨rfl, c⟩] at h; cases h
    · omega
  have hf : (metB S o).fi = 0 := by
    have := (meet_reach o (S (!o.bu)) o.le (iv.inv _) (by omega)).2 (by omega)
    rw [hr] at this
    exact this
  have hs : (metB S o).fi + (metB S o).lf = o.le := meet_sum o _ _
  obtain ⟨c1, c2⟩ := come_yes (S := S) (o := o) (r := restK 4) ⟨by omega, rfl⟩
  rw [e2, c2]
  exact ⟨hr, hf, by show (metB S o).lf = o.le; omega, meet_no o _ _ (iv.inv _) hf⟩
theorem pa_both (iv : InvB S) (h : placeA S o 3 = 0) : placeA S o 4 ≠ 0 := fun h4 => by
  have h1 := (pa_all iv h).1
  have h2 := (pa_post iv h4).1
  have := may_le (pa_zero iv h).1
  omega
end
section
variable {Pb : PbT} {w W W' : World} {X : Xs} {G : Nat} {S : Sd} {t : Nat} {x : Op7}
theorem On.play (K : BookK Pb) (h : On Pb w X W G S t) (ok : x.ok) (ht : t < 1000000000) :
    Calls Try.prog 25 #[.pointer (some ⟨G, 0, none⟩), .agg (EOp.cells x).toArray] W fun e w' => (∃ v, e = .returned v) ∧ On Pb w X w' G (playS S x) (t + 1) :=
  h.c K (R := fun e => ∃ v, e = .returned v) fun A h1 => play7_any K h1 ok ht
/-- A new book, beside what is kept. -/
theorem on_new {A : Nat → Prop} (K : BookK Pb) (b : Below w.heap.size w W) (hx : X.in W) (hp : Pb W' A G S t) (q : Below W.heap.size W W') (hA : ∀ k, A k → W.heap.size ≤ k) : On Pb w X W' G S t :=
  ⟨A, hp, fun k hk => Nat.le_trans b.size (hA k hk), b.trans (q.mono b.size), Xs.below hx q, fun p hp' c => by have := hA _ c; have := (Array.getElem?_eq_some_iff.1 (hx p hp')).1; omega⟩
end
def orB (b : Nat) (o : Or) : Nat × Obj := (b, .cells (EO.cells o).toArray 31 (0, 0))
def pxB (b : Nat) (p : Px) : Nat × Obj := (b, .cells (EPx.cells p).toArray 49 (0, 0))
theorem Xs.or {X : Xs} {W : World} {b : Nat} {o : Or} (h : X.in W) (hm : orB b o ∈ X) : EO.Bx 31 W b o := h _ hm
theorem Xs.px {X : Xs} {W : World} {b : Nat} {p : Px} (h : X.in W) (hm : pxB b p ∈ X) : EPx.Bx 49 W b p := h _ hm
theorem one_in {W : World} {b : Nat} {o : Obj} (e : W.heap[b]? = some o) : Xs.in [(b, o)] W := fun p hp => by rw [List.mem_singleton.1 hp]; exact e
end Go.Proofs.Ytdcjgcjnfcahkaa
