/- Plain: what is left of a list when some places are done; the best one of what is left comes first. -/
import Derived.Test.YtcjianjnedbjkaaAn
namespace Go.Proofs.Ytcjianjnedbjkaa
set_option linter.unusedVariables false

theorem sort_first8 {b : Bool} {x : Or} {A : List Or} (hA : ∀ y, y ∈ A → btr b x.pr y.pr = true) (B : List Or) : (∀ y, y ∈ B → btr b y.pr x.pr = false) → sortO b (A ++ x :: B) = x :: sortO b (A ++ B) := by
  refine snoc_ind (P := fun B => (∀ y, y ∈ B → btr b y.pr x.pr = false) → sortO b (A ++ x :: B) = x :: sortO b (A ++ B)) ?_ ?_ B
  · intro _
    rw [List.append_nil, sort_snoc]
    exact ins_first fun y hy => hA y (sort_mem.1 hy)
  · intro B y ih h
    have e1 : A ++ x :: (B ++ [y]) = (A ++ x :: B) ++ [y] := by simp
    have e2 : A ++ (B ++ [y]) = (A ++ B) ++ [y] := by simp
    rw [e1, e2, sort_snoc, sort_snoc, ih fun z hz => h z (by simp [hz]), ins_no (h y (by simp))]
/-- What is left: the places from s on that are not done. -/
def rl8 (d : Nat → Bool) : List Or → Nat → List Or
  | [], _ => []
  | x :: r, s => if d s = true then rl8 d r (s + 1) else x :: rl8 d r (s + 1)
theorem rl_app8 (d : Nat → Bool) : ∀ (A B : List Or) (s : Nat), rl8 d (A ++ B) s = rl8 d A s ++ rl8 d B (s + A.length)
  | [], B, s => rfl
  | x :: A, B, s => by
    have ih := rl_app8 d A B (s + 1)
    rw [List.cons_append, List.length_cons, show s + (A.length + 1) = s + 1 + A.length by omega]
    rw [rl8, rl8, ih]
    split <;> rfl
theorem rl_all8 (d : Nat → Bool) : ∀ (l : List Or) (s : Nat), (∀ t, s ≤ t → d t = false) → rl8 d l s = l
  | [], _, _ => rfl
  | x :: r, s, h => by
    unfold rl8
    rw [if_neg (by rw [h s (Nat.le_refl _)]; decide), rl_all8 d r (s + 1) fun t ht => h t (by omega)]
theorem rl_like8 {d d' : Nat → Bool} : ∀ (l : List Or) (s : Nat), (∀ t, s ≤ t → t < s + l.length → d' t = d t) → rl8 d' l s = rl8 d l s
  | [], _, _ => rfl
  | x :: r, s, h => by
    have ih := rl_like8 (d := d) (d' := d') r (s + 1) fun t h1 h2 => h t (by omega) (by rw [List.length_cons]; omega)
    unfold rl8
    rw [ih, h s (Nat.le_refl _) (by rw [List.length_cons]; omega)]
theorem rl_mem8 {d : Nat → Bool} {y : Or} : ∀ (l : List Or) (s : Nat), y ∈ rl8 d l s → ∃ t, l[t]? = some y ∧ d (s + t) = false
  | [], _, h => by simp [rl8] at h
  | x :: r, s, h => by
    unfold rl8 at h
    have more : y ∈ rl8 d r (s + 1) → ∃ t, (x :: r)[t]? = some y ∧ d (s + t) = false := fun h => by
      obtain ⟨t, h1, h2⟩ := rl_mem8 r (s + 1) h
      exact ⟨t + 1, by simpa using h1, by rw [show s + (t + 1) = s + 1 + t by omega]; exact h2⟩
    split at h
    · exact more h
    · rename_i c
      rcases List.mem_cons.1 h with rfl | h
      · exact ⟨0, rfl, by simpa using c⟩
      · exact more h
/-- The best one of the first i that are not done. -/
def Best8 (b : Bool) (l : List Or) (d : Nat → Bool) (i : Nat) (best : Int) : Prop :=
  (best = -1 ∧ ∀ j, j < i → d j = true) ∨
  ∃ (k : Nat) (x : Or), best = k ∧ k < i ∧ l[k]? = some x ∧ d k = false ∧ (∀ (j : Nat) (y : Or), j < k → d j = false → l[j]? = some y → btr b x.pr y.pr = true) ∧ ∀ (j : Nat) (y : Or), k < j → j < i → d j = false → l[j]? = some y → btr b y.pr x.pr = false
section
variable {b : Bool} {l : List Or} {d : Nat → Bool} {i k : Nat} {best : Int} {x z : Or}
theorem best_zero8 : Best8 b l d 0 (-1) := .inl ⟨rfl, fun j h => absurd h (Nat.not_lt_zero j)⟩
theorem best_done8 (h : Best8 b l d i best) (hd : d i = true) : Best8 b l d (i + 1) best := by
  rcases h with ⟨h1, h2⟩ | ⟨k, x, h1, h2, h3, h4, h5, h6⟩
  · exact .inl ⟨h1, fun j hj => by
      rcases Nat.lt_or_eq_of_le (Nat.le_of_lt_succ hj) with c | rfl
      · exact h2 j c
      · exact hd⟩
  · refine .inr ⟨k, x, h1, by omega, h3, h4, h5, fun j y hj hi hdj hy => ?_⟩
    rcases Nat.lt_or_eq_of_le (Nat.le_of_lt_succ hi) with c | rfl
    · exact h6 j y hj c hdj hy
    · rw [hd] at hdj; cases hdj
theorem best_new8 (h : Best8 b l d i (-1)) (hd : d i = false) (hz : l[i]? = some z) : Best8 b l d (i + 1) i := by
  rcases h with ⟨_, h2⟩ | ⟨k, x, h1, _⟩
  · exact .inr ⟨i, z, rfl, Nat.lt_succ_self _, hz, hd, fun j y hj hdj _ => (by rw [h2 j hj] at hdj; cases hdj), fun j y h1 h2 => by omega⟩
  · omega
theorem best_take8 (h : Best8 b l d i k) (hx : l[k]? = some x) (hd : d i = false) (hz : l[i]? = some z) (hb : btr b z.pr x.pr = true) : Best8 b l d (i + 1) i := by
  rcases h with ⟨h1, _⟩ | ⟨k', x', h1, h2, h3, h4, h5, h6⟩
  · omega
  · obtain rfl : k = k' := by omega
    rw [hx] at h3
    cases h3
    refine .inr ⟨i, z, rfl, Nat.lt_succ_self _, hz, hd, fun j y hj hdj hy => ?_, fun j y h1 h2 => by omega⟩
    rcases Nat.lt_trichotomy j k with c | rfl | c
    · have := h5 j y c hdj hy
      exact btr_tr hb (btr_as this)
    · rw [hx] at hy; cases hy; exact hb
    · exact btr_tr hb (h6 j y c hj hdj hy)
theorem best_keep8 (h : Best8 b l d i k) (hx : l[k]? = some x) (hz : l[i]? = some z) (hb : btr b z.pr x.pr = false) : Best8 b l d (i + 1) k := by
  rcases h with ⟨h1, _⟩ | ⟨k', x', h1, h2, h3, h4, h5, h6⟩
  · omega
  · obtain rfl : k = k' := by omega
    rw [hx] at h3
    cases h3
    refine .inr ⟨k, x, rfl, by omega, hx, h4, h5, fun j y hj hi hdj hy => ?_⟩
    rcases Nat.lt_or_eq_of_le (Nat.le_of_lt_succ hi) with c | rfl
    · exact h6 j y hj c hdj hy
    · rw [hz] at hy; cases hy; exact hb
/-- It comes first, and is what is taken out. -/
theorem best_sort8 (h : Best8 b l d l.length k) (hx : l[k]? = some x) : sortO b (rl8 d l 0) = x :: sortO b (rl8 (fun t => if t = k then true else d t) l 0) ∧ sumC (rl8 d l 0) = x.le + sumC (rl8 (fun t => if t = k then true else d t) l 0) := by
  rcases h with ⟨h1, _⟩ | ⟨k', x', h1, h2, h3, h4, h5, h6⟩
  · omega
  obtain rfl : k = k' := by omega
  rw [hx] at h3
  cases h3
  have es : l = l.take k ++ x :: l.drop (k + 1) := by
    have e := @List.getElem_cons_drop _ l k h2
    rw [(List.getElem?_eq_some_iff.1 hx).2] at e
    rw [e, List.take_append_drop]
  have lk : (l.take k).length = k := by rw [List.length_take]; omega
  have e1 : rl8 d l 0 = rl8 d (l.take k) 0 ++ x :: rl8 d (l.drop (k + 1)) (k + 1) := by
    conv => lhs; rw [es]
    rw [rl_app8, lk]
    congr 1
    conv => lhs; unfold rl8
    rw [if_neg (by rw [Nat.zero_add, h4]; decide), Nat.zero_add]
  have e2 : rl8 (fun t => if t = k then true else d t) l 0 = rl8 d (l.take k) 0 ++ rl8 d (l.drop (k + 1)) (k + 1) := by
    conv => lhs; rw [es]
    rw [rl_app8, lk]
    congr 1
    · refine rl_like8 _ _ fun t h1 h2 => ?_
      rw [if_neg (by rw [lk] at h2; omega)]
    · conv => lhs; unfold rl8
      rw [if_pos (by rw [Nat.zero_add]; simp), Nat.zero_add]
      refine rl_like8 _ _ fun t h1 h2 => ?_
      rw [if_neg (by omega)]
  rw [e1, e2]
  refine ⟨sort_first8 (fun y hy => ?_) _ fun y hy => ?_, ?_⟩
  · obtain ⟨t, ht, hdt⟩ := rl_mem8 _ _ hy
    have htk : t < k := by have := (List.getElem?_eq_some_iff.1 ht).1; omega
    rw [List.getElem?_take, if_pos htk] at ht
    rw [Nat.zero_add] at hdt
    exact h5 t y htk hdt ht
  · obtain ⟨t, ht, hdt⟩ := rl_mem8 _ _ hy
    rw [List.getElem?_drop] at ht
    exact h6 (k + 1 + t) y (by omega) (List.getElem?_eq_some_iff.1 ht).1 hdt ht
  · rw [sum_app, sum_app]
    have : sumC (x :: rl8 d (l.drop (k + 1)) (k + 1)) = x.le + sumC (rl8 d (l.drop (k + 1)) (k + 1)) := by simp [sumC]
    omega
theorem best_none8 (h : Best8 b l d l.length (-1)) : rl8 d l 0 = [] := by
  rcases h with ⟨_, h2⟩ | ⟨k, x, h1, _⟩
  · cases e : rl8 d l 0 with
    | nil => rfl
    | cons y r =>
      obtain ⟨t, ht, hdt⟩ := rl_mem8 (d := d) (y := y) l 0 (by rw [e]; exact List.mem_cons_self ..)
      rw [Nat.zero_add, h2 t (List.getElem?_eq_some_iff.1 ht).1] at hdt
      cases hdt
  · omega
end
end Go.Proofs.Ytcjianjnedbjkaa
