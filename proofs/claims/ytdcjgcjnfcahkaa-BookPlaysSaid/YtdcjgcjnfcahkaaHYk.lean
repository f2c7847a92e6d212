/- Trades are fair: plain. -/
import Derived.Test.YtdcjgcjnfcahkaaHYj
namespace Go.Proofs.Ytdcjgcjnfcahkaa
open Go.RowKit Go.Shelf
set_option linter.unusedVariables false

/-- How much one has left for each time that it is named. -/
def own1 (gn : List Int) (x : Or) : Int := (gn.map fun n => if x.nu == n then x.le else 0).sum
def ownS (gn : List Int) (l : List Or) : Int := (l.map (own1 gn)).sum
theorem own1_snoc (gn : List Int) (x : Or) {k : Nat} {n : Int} (hn : gn[k]? = some n) : own1 (gn.take (k + 1)) x = own1 (gn.take k) x + (if x.nu == n then x.le else 0) := by
  unfold own1
  rw [List.take_add_one, hn, Option.toList_some, List.map_append, List.sum_append]
  simp
theorem ownS_snoc (gn : List Int) (l : List Or) {k : Nat} {x : Or} (hx : l[k]? = some x) : ownS gn (l.take (k + 1)) = ownS gn (l.take k) + own1 gn x := by
  unfold ownS
  rw [List.take_add_one, hx, Option.toList_some, List.map_append, List.sum_append]
  simp
theorem own1_cons (n : Int) (gn : List Int) (x : Or) : own1 (n :: gn) x = (if x.nu == n then x.le else 0) + own1 gn x := by simp [own1]
theorem ownS_cons (gn : List Int) (x : Or) (l : List Or) : ownS gn (x :: l) = own1 gn x + ownS gn l := by simp [ownS]
theorem ownS_app (gn : List Int) (l m : List Or) : ownS gn (l ++ m) = ownS gn l + ownS gn m := by
  unfold ownS
  rw [List.map_append, List.sum_append]
theorem own1_le {x : Or} (h : 0 ≤ x.le ∧ x.le ≤ 1000000) : ∀ gn : List Int, 0 ≤ own1 gn x ∧ own1 gn x ≤ 1000000 * gn.length
  | [] => by simp [own1]
  | n :: r => by
    have q := own1_le h r
    rw [own1_cons, List.length_cons]
    split <;> omega
theorem ownS_le {gn : List Int} (hg : gn.length ≤ 100) : ∀ l : List Or, (∀ x, x ∈ l → 0 ≤ x.le ∧ x.le ≤ 1000000) → 0 ≤ ownS gn l ∧ ownS gn l ≤ 100000000 * l.length
  | [], _ => by simp [ownS]
  | x :: r, h => by
    have q := ownS_le hg r fun y hy => h y (List.mem_cons_of_mem _ hy)
    have p := own1_le (h x (List.mem_cons_self ..)) gn
    rw [ownS_cons, List.length_cons]
    omega
theorem own1_none {gn : List Int} {x : Or} (h : x.nu ∉ gn) : own1 gn x = 0 := by
  induction gn with
  | nil => rfl
  | cons n r ih =>
    rw [own1_cons, if_neg (by simpa using fun e : x.nu = n => h (by rw [e]; exact List.mem_cons_self ..)), ih fun c => h (List.mem_cons_of_mem _ c)]
    rfl
theorem ownS_none {gn : List Int} : ∀ {l : List Or}, (∀ x, x ∈ l → x.nu ∉ gn) → ownS gn l = 0
  | [], _ => rfl
  | x :: r, h => by
    rw [ownS_cons, own1_none (h x (List.mem_cons_self ..)), ownS_none fun y hy => h y (List.mem_cons_of_mem _ hy)]
    rfl
theorem ownS_skip {n : Int} {gn : List Int} : ∀ {l : List Or}, (∀ x, x ∈ l → x.nu ≠ n) → ownS (n :: gn) l = ownS gn l
  | [], _ => rfl
  | x :: r, h => by
    rw [ownS_cons, ownS_cons, own1_cons, if_neg (by simpa using h x (List.mem_cons_self ..)), ownS_skip fun y hy => h y (List.mem_cons_of_mem _ hy), Int.zero_add]
/-- Of some of those whose numbers differ: what these have left. -/
theorem ownS_sub {X l : List Or} (h : X.Sublist l) : Dis l → ownS (X.map (·.nu)) l = sumO X := by
  induction h with
  | slnil => intro _; rfl
  | cons x s ih =>
    intro d
    obtain ⟨h1, h2⟩ := List.pairwise_cons.1 d
    rw [ownS_cons, ih h2, own1_none, Int.zero_add]
    intro c
    obtain ⟨y, hy, e⟩ := List.mem_map.1 c
    exact h1 y (s.subset hy) e.symm
  | cons_cons x s ih =>
    intro d
    obtain ⟨h1, h2⟩ := List.pairwise_cons.1 d
    rw [List.map_cons, ownS_cons, ownS_skip fun y hy e => h1 y hy e.symm, ih h2, own1_cons, if_pos (by simp), own1_none, sumO_cons]
    · omega
    · intro c
      obtain ⟨y, hy, e⟩ := List.mem_map.1 c
      exact h1 y (s.subset hy) e.symm
theorem sumO_ins (b : Bool) (o : Or) : ∀ os : List Or, sumO (insO b o os) = o.le + sumO os
  | [] => by simp [insO, sumO]
  | x :: r => by
    unfold insO
    split
    · rfl
    · rw [sumO_cons, sumO_cons, sumO_ins b o r]; omega
theorem sumT_snoc (l : List Td) {k : Nat} {x : Td} (hx : l[k]? = some x) : sumT (l.take (k + 1)) = sumT (l.take k) + x.qt := by
  have app : ∀ a b : List Td, sumT (a ++ b) = sumT a + sumT b := fun a b => by
    induction a with
    | nil => exact (Int.zero_add _).symm
    | cons y r ih => show y.qt + sumT (r ++ b) = y.qt + sumT r + sumT b; rw [ih]; omega
  rw [List.take_add_one, hx, Option.toList_some, app]
  show _ + (x.qt + 0) = _
  omega
theorem sumT_le : ∀ (l : List Td), (∀ x, x ∈ l → 1 ≤ x.qt) → ∀ k, 0 ≤ sumT (l.take k) ∧ sumT (l.take k) ≤ sumT l
  | [], _, k => by rw [List.take_nil]; exact ⟨Int.le_refl _, Int.le_refl _⟩
  | x :: r, h, 0 => by
    have q := sumT_le r (fun y hy => h y (List.mem_cons_of_mem _ hy)) 0
    have hx := h x (List.mem_cons_self ..)
    have e : sumT (x :: r) = x.qt + sumT r := rfl
    refine ⟨Int.le_refl _, ?_⟩
    show 0 ≤ _
    omega
  | x :: r, h, k + 1 => by
    have q := sumT_le r (fun y hy => h y (List.mem_cons_of_mem _ hy)) k
    have hx := h x (List.mem_cons_self ..)
    have e : sumT (x :: r) = x.qt + sumT r := rfl
    have e2 : sumT ((x :: r).take (k + 1)) = x.qt + sumT (r.take k) := rfl
    omega
structure Fair (S T : Sd) (o : Or) (td : List Td) (gn : List Int) (fi lf : Int) : Prop where
  each : ∀ t, t ∈ td → 1 ≤ t.qt ∧ t.ac ≠ o.ac ∧ (o.bu = true → t.pr ≤ o.pr) ∧ (o.bu = false → o.pr ≤ t.pr)
  next : ∀ i t u, td[i]? = some t → td[i + 1]? = some u → (o.bu = true → t.pr ≤ u.pr) ∧ (o.bu = false → u.pr ≤ t.pr)
  sum : sumT td = fi
  gone : ∀ x, x ∈ S.all → x.nu ∈ gn → x.ac = o.ac ∧ x.bu = !o.bu
  gl : gn.length ≤ 100
  fr : 0 ≤ fi ∧ 0 ≤ lf ∧ fi + lf ≤ o.le ∧ o.le ≤ 1000000
  own : sumO (T o.bu) = sumO (S o.bu) + lf
  oth : sumO (T (!o.bu)) = sumO (S (!o.bu)) - fi - ownS gn S.all
section
variable {S : Sd} {o : Or} {k : Int}
theorem fair_of (iv : InvB S) (h : placeA S o k = 0) : Fair S (placeS S o k) o (placeP S o k).td (placeP S o k).gn (placeP S o k).fi (placeP S o k).lf := by
  obtain ⟨hm, hk0, ht⟩ := pa_zero iv h
  have hk : knownK k = true := by rcases hk0 with rfl | rfl | rfl | rfl <;> rfl
  have hml := may_le hm
  have fn := findB_none (take_none ht)
  obtain ⟨e1, e2⟩ := pa_yes h
  have hs : (metB S o).fi + (metB S o).lf = o.le := meet_sum o _ _
  have hlf : 0 ≤ (metB S o).lf := meet_ge o _ _ (by omega)
  have hfi : 0 ≤ (metB S o).fi := (meet_fi (iv.inv (!o.bu)) o (left := o.le) (by omega)).1
  have mt := meet_trades o (S (!o.bu)) o.le (iv.inv _)
  have mo := meet_order o (S (!o.bu)) o.le (iv.inv _)
  have ms : sumT (metB S o).td = (metB S o).fi := meet_traded o _ _
  obtain ⟨X, x1, x2, x3, x4⟩ := meet_total o (S (!o.bu)) o.le
  have x1 : (metB S o).gn = X.map (·.nu) := x1
  have x4 : sumO (metB S o).os + (metB S o).fi + sumO X = sumO (S (!o.bu)) := x4
  have cr : ∀ x, x ∈ S o.bu → x.nu ∉ (metB S o).gn := fun x hx c => by
    rw [x1] at c
    obtain ⟨y, hy, e⟩ := List.mem_map.1 c
    exact (iv.cross o.bu x hx y (x2.subset hy)).1 e.symm
  have ow : ownS (metB S o).gn S.all = sumO X := by
    have a : ownS (metB S o).gn (S (!o.bu)) = sumO X := by rw [x1]; exact ownS_sub x2 (iv.inv _).dis
    have b : ownS (metB S o).gn (S o.bu) = 0 := ownS_none cr
    show ownS _ (S true ++ S false) = _
    rw [ownS_app]
    cases hb : o.bu <;> rw [hb] at a b <;> simp only [Bool.not_true, Bool.not_false] at a b <;> rw [a, b] <;> omega
  have base : ∀ T lf, 0 ≤ lf → (metB S o).fi + lf ≤ o.le → sumO (T o.bu) = sumO (S o.bu) + lf → T (!o.bu) = (metB S o).os → Fair S T o (metB S o).td (metB S o).gn (metB S o).fi lf := by
    intro T lf h0 h1 h2 h3
    refine ⟨fun t ht => ?_, fun i t u h1 h2 => ?_, ms, fun x hx c => ?_, ?_, ⟨hfi, h0, h1, hml.2.2.2.2⟩, h2, ?_⟩
    · obtain ⟨q1, y, hy, y1, y2, y3, y4, y5⟩ := mt t ht
      refine ⟨by omega, y2 ▸ y4, fun hb => ?_, fun hb => ?_⟩
      all_goals
        simp [metO, btr, hb] at y5
        omega
    · have hi := (List.getElem?_eq_some_iff.1 h2).1
      have p := List.pairwise_iff_getElem.1 mo i (i + 1) (by have := (List.getElem?_eq_some_iff.1 h1).1; exact this) hi (Nat.lt_succ_self _)
      have a1 := (List.getElem?_eq_some_iff.1 h1).2
      have a2 := (List.getElem?_eq_some_iff.1 h2).2
      have p : btr (!o.bu) u.pr t.pr = false := by rw [← a1, ← a2]; exact p
      refine ⟨fun hb => ?_, fun hb => ?_⟩
      all_goals
        simp [btr, hb] at p
        omega
    · have hc := c
      rw [x1] at hc
      obtain ⟨y, hy, e⟩ := List.mem_map.1 hc
      have hx' : x ∈ S (!o.bu) := by
        rcases List.mem_append.1 hx with hx | hx <;> cases hb : o.bu <;> first | exact hx | exact absurd c (cr x (hb ▸ hx))
      have := dis_uniq (iv.inv (!o.bu)).dis hx' (x2.subset hy) e.symm
      subst this
      exact ⟨x3 x hy, ((iv.inv (!o.bu)).may x hx').2⟩
    · rw [x1, List.length_map]
      exact Nat.le_trans x2.length_le (iv.inv _).len
    · rw [h3, ow]; omega
  by_cases c : 0 < (metB S o).lf ∧ restK k = true
  · obtain ⟨y1, y2⟩ := come_yes c
    have e1' : placeS S o k = (S.up (!o.bu) (metB S o).os).up o.bu (addO o.bu ((S.up (!o.bu) (metB S o).os) o.bu) (o.wi (metB S o).lf)) := e1.trans y1
    rw [Sd.up_not] at e1'
    have hmay : mayO (o.wi (metB S o).lf) = true := may_wi hm (by omega) (by omega)
    have hlt : sumR (!o.bu) (S (!o.bu)) o.pr o.ac < o.le := by
      by_cases d : sumR (!o.bu) (S (!o.bu)) o.pr o.ac < o.le
      · exact d
      · have : (metB S o).fi = o.le := (meet_reach o (S (!o.bu)) o.le (iv.inv _) (by omega)).1 (by omega)
        omega
    have hroom : ¬ 100 ≤ (S o.bu).length := fun c100 => by
      have e0 := pa_else hm hk ht
      rw [h] at e0
      split at e0
      · cases e0
      · split at e0
        · cases e0
        · rw [if_pos ⟨c.2, hlt, c100⟩] at e0; cases e0
    have hnone : findO (S o.bu) (o.wi (metB S o).lf).nu = none := List.find?_eq_none.2 fun y hy => by
      show ¬ ((y.nu == o.nu) = true)
      simpa using fn o.bu y hy
    have hadd : addO o.bu (S o.bu) (o.wi (metB S o).lf) = insO o.bu (o.wi (metB S o).lf) (S o.bu) := by
      unfold addO
      rw [if_pos]
      unfold addA
      rw [if_neg, if_neg, if_neg hroom]
      · rw [hnone]; simp
      · rw [hmay]; simp [Or.wi]
    rw [hadd] at e1'
    rw [e1', e2, y2]
    refine base _ (metB S o).lf hlf (by omega) ?_ ?_
    · rw [Sd.up_at, sumO_ins]
      show (metB S o).lf + _ = _
      omega
    · rw [Sd.up_ne _ _ (by cases o.bu <;> decide), Sd.up_at]
  · obtain ⟨y1, y2⟩ := come_no (S := S) (o := o) (r := restK k) c
    rw [e1, e2, y1, y2]
    refine base _ 0 (Int.le_refl _) (by omega) ?_ (Sd.up_at ..)
    rw [Sd.up_not]
    omega
end
end Go.Proofs.Ytdcjgcjnfcahkaa
