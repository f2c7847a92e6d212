/- Plain arithmetic on cuts, no program: the parts of a total by weights, place by place in a list; weights of 0 are nothing to the others. -/
import Derived.Lib.Hide
namespace Go.Proofs.Ytlbekdpmfjhjhaa
set_option linter.unusedVariables false
namespace Cut
variable {T S E : Int}

/-- How many come ahead of x, which stands behind a and before b: of the greater rest, of two alike the earlier one. -/
def rk (T S : Int) (a : List Int) (x : Int) (b : List Int) : Nat := a.countP (fun y => decide (T * x % S ≤ T * y % S)) + b.countP (fun y => decide (T * x % S < T * y % S))
/-- The part of x. -/
def one (T S E : Int) (a : List Int) (x : Int) (b : List Int) : Int := T * x / S + if (rk T S a x b : Int) < E then 1 else 0
/-- The parts of what stands behind a. -/
def go (T S E : Int) : List Int → List Int → List Int
  | _, [] => []
  | a, x :: b => one T S E a x b :: go T S E (a ++ [x]) b
theorem go_len (a b : List Int) : (go T S E a b).length = b.length := by
  induction b generalizing a with
  | nil => rfl
  | cons x b ih => rw [go, List.length_cons, List.length_cons, ih]
theorem go_at (a b : List Int) (t : Nat) (ht : t < b.length) : (go T S E a b)[t]? = some (one T S E (a ++ b.take t) (b.getD t 0) (b.drop (t + 1))) := by
  induction b generalizing a t with
  | nil => exact absurd ht (Nat.not_lt_zero _)
  | cons x b ih =>
    cases t with
    | zero => simp [go]
    | succ t =>
      have := ih (a ++ [x]) t (by simpa using ht)
      rw [go, List.getElem?_cons_succ, this]
      simp
/-- Not 0. -/
def nz (x : Int) : Bool := decide (x ≠ 0)
theorem cnt_nz (a : List Int) (p : Int → Bool) (h : p 0 = false) : (a.filter nz).countP p = a.countP p := by
  induction a with
  | nil => rfl
  | cons x a ih =>
    by_cases e : x = 0
    · subst e
      rw [List.filter_cons_of_neg (by simp [nz]), List.countP_cons_of_neg (by simp [h]), ih]
    · rw [List.filter_cons_of_pos (by simp [nz, e])]
      by_cases c : p x = true
      · rw [List.countP_cons_of_pos c, List.countP_cons_of_pos c, ih]
      · rw [List.countP_cons_of_neg c, List.countP_cons_of_neg c, ih]
theorem rest0 : T * 0 % S = 0 := by rw [Int.mul_zero, Int.zero_emod]
/-- How many leave a rest. -/
def some' (T S : Int) (l : List Int) : Nat := l.countP (fun y => decide (0 < T * y % S))
theorem one_zero (hS : 0 < S) (a : List Int) (x : Int) (b : List Int) (hx : T * x % S = 0) (hE : E ≤ some' T S (a ++ x :: b)) : one T S E a x b = T * x / S := by
  have hr : (E : Int) ≤ rk T S a x b := by
    have h1 : some' T S (a ++ x :: b) = a.countP (fun y => decide (0 < T * y % S)) + b.countP (fun y => decide (0 < T * y % S)) := by
      unfold some'
      rw [List.countP_append, List.countP_cons_of_neg (by simp [hx])]
    have h2 : a.countP (fun y => decide (0 < T * y % S)) ≤ a.countP (fun y => decide (T * x % S ≤ T * y % S)) := List.countP_mono_left (fun y _ h => by
      rw [hx]
      exact decide_eq_true (Int.le_of_lt (of_decide_eq_true h)))
    have h3 : rk T S a x b = a.countP (fun y => decide (T * x % S ≤ T * y % S)) + b.countP (fun y => decide (0 < T * y % S)) := by unfold rk; rw [hx]
    rw [h1] at hE
    rw [h3]
    omega
  unfold one
  rw [if_neg (by omega), Int.add_zero]
theorem one_filter (hS : 0 < S) (a : List Int) (x : Int) (b : List Int) (hx : 0 < T * x % S) : one T S E (a.filter nz) x (b.filter nz) = one T S E a x b := by
  unfold one rk
  rw [cnt_nz a _ (by rw [rest0]; exact decide_eq_false (by omega)), cnt_nz b _ (by rw [rest0]; exact decide_eq_false (by omega))]
theorem some_filter (l : List Int) : some' T S (l.filter nz) = some' T S l := cnt_nz l _ (by rw [rest0]; rfl)
/-- The parts of all but the weights of 0: with 0 at these. -/
def back : List Int → List Int → List Int
  | [], _ => []
  | x :: l, cs => if nz x then cs.headD 0 :: back l cs.tail else 0 :: back l cs
theorem go_back (hS : 0 < S) (a b : List Int) (hE : E ≤ some' T S (a ++ b)) : go T S E a b = back b (go T S E (a.filter nz) (b.filter nz)) := by
  induction b generalizing a with
  | nil => rfl
  | cons x b ih =>
    have ih' := ih (a ++ [x]) (by rw [List.append_assoc]; exact hE)
    rw [go, ih']
    by_cases e : x = 0
    · subst e
      have hz : nz 0 = false := by simp [nz]
      rw [List.filter_append, List.filter_cons_of_neg (by simp [nz]), List.filter_nil, List.append_nil, List.filter_cons_of_neg (by simp [nz]), back, hz, one_zero hS a 0 b rest0 hE, Int.mul_zero, Int.zero_ediv]
      rfl
    · have hz : nz x = true := by simp [nz, e]
      rw [List.filter_append, List.filter_cons_of_pos hz, List.filter_nil, List.filter_cons_of_pos hz, go, back, if_pos hz, List.headD_cons, List.tail_cons]
      congr 1
      by_cases c : T * x % S = 0
      · rw [one_zero hS a x b c hE, one_zero hS (a.filter nz) x (b.filter nz) c]
        have := some_filter (T := T) (S := S) (a ++ x :: b)
        rw [List.filter_append, List.filter_cons_of_pos hz] at this
        rw [this]
        exact hE
      · have := Int.emod_nonneg (T * x) (show S ≠ 0 by omega)
        exact (one_filter hS a x b (by omega)).symm
end Cut
end Go.Proofs.Ytlbekdpmfjhjhaa
