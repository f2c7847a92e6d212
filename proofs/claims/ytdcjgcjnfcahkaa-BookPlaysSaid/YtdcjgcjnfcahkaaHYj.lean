/- An order that is not to rest, and one that rests and is cancelled: all in one; trades are in range. -/
import Derived.Test.YtdcjgcjnfcahkaaHYi
import Derived.Test.YtdcjgcjnfcahkaaG22
namespace Go.Proofs.Ytdcjgcjnfcahkaa
open Go.RowKit Go.Shelf
set_option linter.unusedVariables false

theorem yields_neq_or0 {ops : Array Oper} {S : World → Prop} {o : Oper} {a : Act} (hw : Region.wanted o (yielded ops a.tmps) = true) (x y : Operand) {t2 : TypeId} (ho : o.op = .binOp .neq 31 x y t2) {u : Or} (hu : u.ok) (hx : a.eval x = .agg (EO.cells u).toArray) (hy : a.eval y = .agg (EO.cells u).toArray) :
    YieldsIf Try.prog ops S o (.bool false) a := by
  have h := yields_neq_or (S := S) hw x y ho hu hu hx hy
  rw [eqO_yes] at h
  exact h
theorem meet_tdlen (o : Or) (os : List Or) (left : Int) : (meetO o os left).td.length ≤ os.length := by
  refine meet_cases o (fun os left m => m.td.length ≤ os.length) ?_ ?_ ?_ ?_ os left
  · intro os left _; exact Nat.zero_le _
  · intro x r left _ _ _ ih; exact Nat.le_succ_of_le ih
  · intro x r left _ _ _ _ ih; exact Nat.succ_le_succ ih
  · intro x r left _ _ _ _; exact Nat.succ_le_succ (Nat.zero_le _)
theorem meet_tdok (o : Or) (os : List Or) (left : Int) (h : ∀ x, x ∈ os → x.ok) : ∀ t, t ∈ (meetO o os left).td → t.ok := by
  refine meet_cases o (fun os left m => (∀ x, x ∈ os → x.ok) → ∀ t, t ∈ m.td → t.ok) ?_ ?_ ?_ ?_ os left h
  · intro os left _ _ t ht; simp at ht
  · intro x r left _ _ _ ih h; exact ih fun y hy => h y (List.mem_cons_of_mem _ hy)
  · intro x r left _ _ _ _ ih h t ht
    rcases List.mem_cons.1 ht with rfl | ht
    · have k := h x (List.mem_cons_self ..)
      exact ⟨k.pr, k.le, k.nu, k.ac⟩
    · exact ih (fun y hy => h y (List.mem_cons_of_mem _ hy)) t ht
  · intro x r left h0 _ _ hx h t ht
    obtain rfl := List.mem_singleton.1 ht
    have k := h x (List.mem_cons_self ..)
    have kl := k.le
    refine ⟨k.pr, ?_, k.nu, k.ac⟩
    have : I64' left := ⟨by have := kl.1; omega, by have := kl.2; omega⟩
    exact this
section
variable {S : Sd} {o : Or} {k : Int}
theorem placeP_td : (placeP S o k).td = [] ∨ (placeP S o k).td = (metB S o).td := by
  by_cases h : placeA S o k = 0
  · refine .inr ?_
    rw [(pa_yes h).2]
    unfold comeP
    dsimp only
  · refine .inl ?_
    rw [(pa_no h).2]; rfl
theorem td_ok (iv : InvB S) : (∀ t, t ∈ (placeP S o k).td → t.ok) ∧ (placeP S o k).td.length ≤ 100 := by
  rcases placeP_td (S := S) (o := o) (k := k) with e | e
  · rw [e]; exact ⟨fun t ht => (by simp at ht), Nat.zero_le _⟩
  · rw [e]; exact ⟨meet_tdok o _ _ (iv.inv _).ok, Nat.le_trans (meet_tdlen o _ _) (iv.inv _).len⟩
/-- All of it. -/
theorem now_all (iv : InvB S) (ok : o.ok) (h9 : placeA S o 1 ≠ 9) :
    placeA S o 2 = placeA S o 1 ∧ (placeP S o 2).td = (placeP S o 1).td ∧ (placeP S o 2).gn = (placeP S o 1).gn ∧ (placeP S o 2).fi = (placeP S o 1).fi ∧ (placeP S o 2).lf = 0 ∧
    (¬ 0 < (placeP S o 1).lf → placeS S o 1 = placeS S o 2) ∧
    (0 < (placeP S o 1).lf → takeA (placeS S o 1) o.nu = 0 ∧ (takeX (placeS S o 1) o.nu).le = (placeP S o 1).lf ∧ cancS (placeS S o 1) o.nu = placeS S o 2) := by
  have e := now_same h9
  by_cases h : placeA S o 1 = 0
  · have h2 := e.trans h
    obtain ⟨p1, p2, p3, p4⟩ := now_p h h2
    exact ⟨e, p1, p2, p3, p4, now_s h h2, now_c iv ok h h2⟩
  · have h2 : placeA S o 2 ≠ 0 := fun c => h (e.symm.trans c)
    rw [(pa_no h).1, (pa_no h).2, (pa_no h2).1, (pa_no h2).2]
    exact ⟨e, rfl, rfl, rfl, rfl, fun _ => rfl, fun c => absurd c (by decide)⟩
end
end Go.Proofs.Ytdcjgcjnfcahkaa
