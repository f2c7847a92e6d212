/- An order that is not to rest, and one that rests and is cancelled: plain. -/
import Derived.Test.YtdcjgcjnfcahkaaHYh
namespace Go.Proofs.Ytdcjgcjnfcahkaa
open Go.RowKit Go.Shelf
set_option linter.unusedVariables false

theorem drop_ins {buy : Bool} {o : Or} : ∀ {os : List Or}, (∀ y, y ∈ os → y.nu ≠ o.nu) → dropO (insO buy o os) o.nu = os
  | [], _ => by simp [insO, dropO]
  | x :: r, h => by
    have hx := h x (List.mem_cons_self ..)
    have hr : r.filter (fun y => y.nu != o.nu) = r := List.filter_eq_self.2 fun y hy => by simpa using h y (List.mem_cons_of_mem _ hy)
    unfold insO
    split
    · unfold dropO
      rw [List.filter_cons_of_neg (by simp), List.filter_cons_of_pos (by simpa using hx), hr]
    · have ih := drop_ins (buy := buy) (o := o) fun y hy => h y (List.mem_cons_of_mem _ hy)
      unfold dropO at ih ⊢
      rw [List.filter_cons_of_pos (by simpa using hx), ih]
theorem take_none {S : Sd} {n : Int} (h : takeA S n = 7) : findB S n = none := by
  unfold takeA at h
  cases c : findB S n with
  | none => rfl
  | some x => rw [c] at h; cases h
section
variable {S : Sd} {o : Or}
/-- The same answer, unless there is no room. -/
theorem now_same (h : placeA S o 1 ≠ 9) : placeA S o 2 = placeA S o 1 := by
  cases hm : mayO o
  · rw [pa_arg (.inl hm), pa_arg (.inl hm)]
  · rcases take_two S o.nu with c | c
    · rw [pa_two hm rfl c, pa_two hm rfl c]
    · have e2 : placeA S o 2 = 0 := by rw [pa_else hm rfl c, if_neg (by omega), if_neg (by omega), if_neg (fun d => absurd d.1 (by decide))]
      have e1 := pa_else hm (k := 1) rfl c
      rw [if_neg (by omega), if_neg (by omega)] at e1
      rw [e2, e1]
      rw [e1] at h
      by_cases d : restK 1 = true ∧ sumR (!o.bu) (S (!o.bu)) o.pr o.ac < o.le ∧ 100 ≤ (S o.bu).length
      · rw [if_pos d] at h; exact absurd rfl h
      · rw [if_neg d]
/-- What is told of the one that does not rest. -/
theorem now_p (h : placeA S o 1 = 0) (h2 : placeA S o 2 = 0) : (placeP S o 2).td = (placeP S o 1).td ∧ (placeP S o 2).gn = (placeP S o 1).gn ∧ (placeP S o 2).fi = (placeP S o 1).fi ∧ (placeP S o 2).lf = 0 := by
  rw [(pa_yes h).2, (pa_yes h2).2, (come_no (S := S) (o := o) (r := restK 2) (fun c => absurd c.2 (by decide))).2]
  exact ⟨rfl, rfl, rfl, rfl⟩
/-- Where nothing rests the book is the same. -/
theorem now_s (h : placeA S o 1 = 0) (h2 : placeA S o 2 = 0) (hl : ¬ 0 < (placeP S o 1).lf) : placeS S o 1 = placeS S o 2 := by
  rw [(pa_yes h).2] at hl
  rw [(pa_yes h).1, (pa_yes h2).1, (come_no (S := S) (o := o) (r := restK 2) (fun c => absurd c.2 (by decide))).1]
  refine (come_no fun c => hl ?_).1
  rw [(come_yes c).2]
  exact c.1
/-- Where it rests, it is found, with that left; and once it is cancelled the book is the same. -/
theorem now_c (iv : InvB S) (ok : o.ok) (h : placeA S o 1 = 0) (h2 : placeA S o 2 = 0) (hl : 0 < (placeP S o 1).lf) :
    takeA (placeS S o 1) o.nu = 0 ∧ (takeX (placeS S o 1) o.nu).le = (placeP S o 1).lf ∧ cancS (placeS S o 1) o.nu = placeS S o 2 := by
  have iv1 : InvB (placeS S o 1) := iv.place ok
  obtain ⟨hm, _, ht⟩ := pa_zero iv h
  have hml := may_le hm
  have fn := findB_none (take_none ht)
  have hlf : 0 < (metB S o).lf := by
    rw [(pa_yes h).2] at hl
    by_cases c : 0 < (metB S o).lf
    · exact c
    · rw [(come_no (r := restK 1) fun d => c d.1).2] at hl
      exact absurd hl (Int.lt_irrefl 0)
  obtain ⟨y1, y2⟩ := come_yes (S := S) (o := o) (r := restK 1) ⟨hlf, rfl⟩
  have e1 : placeS S o 1 = (S.up (!o.bu) (metB S o).os).up o.bu (addO o.bu ((S.up (!o.bu) (metB S o).os) o.bu) (o.wi (metB S o).lf)) := (pa_yes h).1.trans y1
  have e2 : placeS S o 2 = S.up (!o.bu) (metB S o).os := by
    rw [(pa_yes h2).1]
    exact (come_no (r := restK 2) (fun c => absurd c.2 (by decide))).1
  have el : (placeP S o 1).lf = (metB S o).lf := by rw [(pa_yes h).2, y2]
  rw [Sd.up_not] at e1
  have hs : (metB S o).fi + (metB S o).lf = o.le := meet_sum o _ _
  have hge := (meet_fi (iv.inv (!o.bu)) o (left := o.le) (by omega)).1
  have hge : 0 ≤ (metB S o).fi := hge
  have hmay : mayO (o.wi (metB S o).lf) = true := may_wi hm (by omega) (by omega)
  have hlt : sumR (!o.bu) (S (!o.bu)) o.pr o.ac < o.le := by
    by_cases d : sumR (!o.bu) (S (!o.bu)) o.pr o.ac < o.le
    · exact d
    · have : (metB S o).fi = o.le := (meet_reach o (S (!o.bu)) o.le (iv.inv _) (by omega)).1 (by omega)
      omega
  have hroom : ¬ 100 ≤ (S o.bu).length := fun c => by
    have e1 := pa_else hm (k := 1) rfl ht
    rw [if_neg (by omega), if_neg (by omega), if_pos ⟨by decide, hlt, c⟩, h] at e1
    cases e1
  have hnone : findO (S o.bu) (o.wi (metB S o).lf).nu = none := List.find?_eq_none.2 fun y hy => by
    show ¬ ((y.nu == o.nu) = true)
    simpa using fn o.bu y hy
  have hadd : addO o.bu (S o.bu) (o.wi (metB S o).lf) = insO o.bu (o.wi (metB S o).lf) (S o.bu) := by
    unfold addO
    rw [if_pos]
    unfold addA
    rw [if_neg, if_neg, if_neg hroom]
    · rw [hnone]; simp
    · rw [hmay]; simp [Or.wi]
  rw [hadd] at e1
  have hin : o.wi (metB S o).lf ∈ placeS S o 1 o.bu := by
    rw [e1, Sd.up_at]
    exact ins_mem.2 (.inl rfl)
  have hf : findB (placeS S o 1) o.nu = some (o.wi (metB S o).lf) := by
    cases hf : findB (placeS S o 1) o.nu with
    | none => exact absurd (show (o.wi (metB S o).lf).nu = o.nu from rfl) (findB_none hf o.bu _ hin)
    | some x =>
      obtain ⟨hx, hn⟩ := iv1.own hf
      by_cases c : x.bu = o.bu
      · rw [c] at hx
        rw [dis_uniq (iv1.inv o.bu).dis hx hin hn]
      · have c' : x.bu = !o.bu := by cases hb : x.bu <;> cases hb2 : o.bu <;> rw [hb, hb2] at c <;> first | exact absurd rfl c | rfl
        rw [c'] at hx
        exact absurd (show (o.wi (metB S o).lf).nu = x.nu from hn.symm) (iv1.cross o.bu _ hin x hx).1
  refine ⟨by unfold takeA; rw [hf], by unfold takeX; rw [hf, el]; rfl, ?_⟩
  unfold cancS
  rw [hf]
  show (placeS S o 1).up o.bu (dropO (placeS S o 1 o.bu) o.nu) = _
  rw [e1, Sd.up_up, Sd.up_at]
  have hd : dropO (insO o.bu (o.wi (metB S o).lf) (S o.bu)) o.nu = S o.bu := drop_ins (o := o.wi (metB S o).lf) fun y hy => fn o.bu y hy
  rw [hd, e2]
  funext b
  by_cases c : b = o.bu
  · subst c; rw [Sd.up_at, Sd.up_not]
  · rw [Sd.up_ne _ _ c]
end
end Go.Proofs.Ytdcjgcjnfcahkaa
