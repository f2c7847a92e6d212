/- Plain facts on reading a number's form out of bytes, no program. -/
import Derived.Test.YtlnakhbcefmiaaaBy
namespace Go.Proofs.Ytlnakhbcefmiaaa

/-- How many bytes of 128 and more stand ahead. -/
def ld : List Int → Nat
  | [] => 0
  | x :: l => if 128 ≤ x then ld l + 1 else 0
/-- The number whose digits to the base 128 the bytes are. -/
def dv : List Int → Int
  | [] => 0
  | x :: l => x % 128 + 128 * dv l
/-- What is read as a number: it, how many bytes it has, and the fault. -/
def rdN (bs : List Int) : Int × Nat × Int :=
  if bs.length ≤ ld bs then (0, 0, if 10 ≤ ld bs then 5 else 4)
  else if 9 < ld bs ∨ (ld bs = 9 ∧ 1 < bs.getD 9 0) ∨ (0 < ld bs ∧ bs.getD (ld bs) 0 = 0) then (0, 0, 5)
  else (dv (bs.take (ld bs + 1)), ld bs + 1, 0)

theorem ld_le : ∀ bs, ld bs ≤ bs.length
  | [] => Nat.le_refl _
  | x :: l => by
    have := ld_le l
    simp only [ld, List.length_cons]
    split <;> omega
theorem ld_eq : ∀ {bs : List Int} {k : Nat}, (∀ t, t < k → 128 ≤ bs.getD t 0) → k ≤ bs.length → (k < bs.length → bs.getD k 0 < 128) → ld bs = k
  | [], k, _, h, _ => by simp at h; rw [h]; rfl
  | x :: l, 0, _, _, h => by
    have := h (by simp)
    simp at this
    simp only [ld]
    rw [if_neg (by omega)]
  | x :: l, k + 1, h1, h2, h3 => by
    have h0 := h1 0 (by omega)
    simp at h0
    simp only [ld]
    rw [if_pos h0, ld_eq (bs := l) (k := k) (fun t ht => by have := h1 (t + 1) (by omega); simpa using this) (by simp at h2; omega) (fun hk => by have := h3 (by simp; omega); simpa using this)]
theorem dv_nonneg : ∀ bs, 0 ≤ dv bs
  | [] => Int.le_refl _
  | x :: l => by
    have := dv_nonneg l
    simp only [dv]; omega
theorem dv_drop : ∀ (bs : List Int) (j : Nat), dv (bs.drop j) ≤ dv bs
  | [], j => by simp
  | x :: l, 0 => Int.le_refl _
  | x :: l, j + 1 => by
    have h1 := dv_drop l j
    have h2 := dv_nonneg l
    simp only [List.drop_succ_cons, dv]; omega
theorem dv_step {bs : List Int} {j : Nat} (h : j < bs.length) : dv (bs.drop j) = bs.getD j 0 % 128 + 128 * dv (bs.drop (j + 1)) := by
  rw [List.drop_eq_getElem_cons h]
  simp [dv, List.getD, h]
theorem dv_lt : ∀ bs, dv bs < 128 ^ bs.length
  | [] => by simp [dv]
  | x :: l => by
    have := dv_lt l
    simp only [dv, List.length_cons, Int.pow_succ]; omega
theorem dv_snoc : ∀ (l : List Int) (x : Int), dv (l ++ [x]) = dv l + 128 ^ l.length * (x % 128)
  | [], x => by simp [dv]
  | y :: l, x => by
    have e : (128 : Int) ^ l.length * 128 * (x % 128) = 128 * (128 ^ l.length * (x % 128)) := by rw [Int.mul_comm (128 ^ l.length) 128, Int.mul_assoc]
    simp only [List.cons_append, dv, List.length_cons, Int.pow_succ]
    rw [dv_snoc l x, e, Int.mul_add]; omega
theorem dv_word {bs : List Int} {k : Nat} (hk : k < bs.length) (h9 : k ≤ 9) (h1 : k = 9 → 0 ≤ bs.getD 9 0 ∧ bs.getD 9 0 ≤ 1) : dv (bs.take (k + 1)) ≤ 18446744073709551615 := by
  by_cases h : k = 9
  · subst h
    have hx := h1 rfl
    rw [List.take_succ_eq_append_getElem hk, dv_snoc]
    have e : bs.getD 9 0 = bs[9] := by simp [List.getD, hk]
    rw [e] at hx
    have l := dv_lt (bs.take 9)
    rw [show (bs.take 9).length = 9 by simp; omega] at l ⊢
    have p : (128 : Int) ^ 9 = 9223372036854775808 := by decide
    rw [p] at l ⊢
    omega
  · have l := dv_lt (bs.take (k + 1))
    rw [show (bs.take (k + 1)).length = k + 1 by simp; omega] at l
    have p : (128 : Int) ^ (k + 1) ≤ 128 ^ 9 := by
      have h := Int.ofNat_le.2 (Nat.pow_le_pow_right (show 0 < 128 by decide) (show k + 1 ≤ 9 by omega))
      simpa using h
    have q : (128 : Int) ^ 9 = 9223372036854775808 := by decide
    omega
theorem take_getD {bs : List Int} {k t : Nat} (h : t < k) : (bs.take k).getD t 0 = bs.getD t 0 := by
  simp [List.getD, h]
/-- A form is read back, whatever stands behind it. -/
theorem nb_head {n : Nat} (h : 128 ≤ n) (l : List Int) : nb n ++ l = (((n % 128 : Nat) : Int) + 128) :: (nb (n / 128) ++ l) := by rw [nb_big h]; rfl
theorem ld_nb (n : Nat) (l : List Int) : ld (nb n ++ l) + 1 = (nb n).length := by
  induction n using Nat.strongRecOn with
  | _ n ih =>
    by_cases h : n < 128
    · rw [nb_small h]
      simp only [List.cons_append, ld, List.length_cons, List.length_nil]
      rw [if_neg (by omega)]
    · rw [nb_head (n := n) (by omega), nb_big (n := n) (by omega)]
      simp only [ld, List.length_cons]
      rw [if_pos (by omega), ih (n / 128) (by omega)]
theorem dv_nb (n : Nat) : dv (nb n) = n := by
  induction n using Nat.strongRecOn with
  | _ n ih =>
    by_cases h : n < 128
    · rw [nb_small h]
      simp only [dv]; omega
    · rw [nb_big (n := n) (by omega)]
      simp only [dv]
      rw [ih (n / 128) (by omega)]; omega
theorem last_nb (n : Nat) (l : List Int) : (nb n ++ l).getD ((nb n).length - 1) 0 < 128 ∧ (128 ≤ n → 0 < (nb n ++ l).getD ((nb n).length - 1) 0) := by
  induction n using Nat.strongRecOn with
  | _ n ih =>
    by_cases h0 : n < 128
    · rw [nb_small h0]
      simp
      omega
    · rw [nb_head (n := n) (by omega), nb_big (n := n) (by omega)]
      have hp := nb_pos (n / 128)
      obtain ⟨L, hL⟩ : ∃ L, (nb (n / 128)).length = L + 1 := ⟨(nb (n / 128)).length - 1, by omega⟩
      have k := ih (n / 128) (by omega)
      rw [List.length_cons, hL, show L + 1 + 1 - 1 = L + 1 from rfl]
      rw [hL, show L + 1 - 1 = L from rfl] at k
      have e : ∀ (y : Int) (m : List Int), (y :: m).getD (L + 1) 0 = m.getD L 0 := fun y m => by simp [List.getD]
      rw [e]
      refine ⟨k.1, fun _ => ?_⟩
      by_cases h : n / 128 < 128
      · rw [nb_small h] at hL ⊢
        simp at hL
        subst hL
        simp
        omega
      · exact k.2 (by omega)
theorem nine_nb {n : Nat} (hn : n < 18446744073709551616) (l : List Int) (h : (nb n).length = 10) : (nb n ++ l).getD 9 0 ≤ 1 := by
  have e := dv_nb n
  obtain ⟨x, m, hm⟩ : ∃ x m, nb n = m ++ [x] := ⟨(nb n).getLast (by intro c; rw [c] at h; simp at h), (nb n).dropLast, (List.dropLast_concat_getLast _).symm⟩
  have hx : 0 ≤ x ∧ x ≤ 255 := nb_by n x (by rw [hm]; simp)
  have hl : m.length = 9 := by rw [hm] at h; simp at h; exact h
  have hx1 := (last_nb n l).1
  rw [h] at hx1
  have ex : (nb n ++ l).getD 9 0 = x := by rw [hm]; simp [List.getD, hl]
  rw [show 10 - 1 = 9 from rfl, ex] at hx1
  rw [ex]
  rw [hm, dv_snoc, hl] at e
  have p : (128 : Int) ^ 9 = 9223372036854775808 := by decide
  rw [p] at e
  have := dv_nonneg m
  omega
/-- What was written is read. -/
theorem rd_nb {n : Nat} (hn : n < 18446744073709551616) (l : List Int) : rdN (nb n ++ l) = ((n : Int), (nb n).length, 0) := by
  have h1 := ld_nb n l
  have h2 := nb_ten hn
  have h3 := last_nb n l
  have hk : ld (nb n ++ l) = (nb n).length - 1 := by omega
  have h4 : ¬ (nb n ++ l).length ≤ ld (nb n ++ l) := by rw [List.length_append]; omega
  have h5 : ¬ (9 < ld (nb n ++ l) ∨ (ld (nb n ++ l) = 9 ∧ 1 < (nb n ++ l).getD 9 0) ∨ (0 < ld (nb n ++ l) ∧ (nb n ++ l).getD (ld (nb n ++ l)) 0 = 0)) := by
    rintro (c | ⟨c1, c2⟩ | ⟨c1, c2⟩)
    · omega
    · have := nine_nb hn l (by omega)
      omega
    · rw [hk] at c2
      by_cases h0 : n < 128
      · have hlen : (nb n).length = 1 := by rw [nb_small h0]; rfl
        omega
      · have := h3.2 (by omega)
        omega
  unfold rdN
  rw [if_neg h4, if_neg h5, h1, List.take_left, dv_nb]
/-- One form each: what is read as a number, written again, is the bytes that were read. -/
theorem nb_dv : ∀ (bs : List Int), By bs → (∀ t, t + 1 < bs.length → 128 ≤ bs.getD t 0) → 0 < bs.length → bs.getD (bs.length - 1) 0 < 128 → (1 < bs.length → bs.getD (bs.length - 1) 0 ≠ 0) → nb (dv bs).toNat = bs
  | [], _, _, h, _, _ => absurd h (Nat.lt_irrefl 0)
  | [x], hy, _, _, h1, _ => by
    have hx := hy x (by simp)
    simp at h1
    have e : dv [x] = x := by simp only [dv]; omega
    rw [e, nb_small (by omega)]
    congr 1; omega
  | x :: y :: l, hy, h128, _, h1, h2 => by
    have hx := hy x (by simp)
    have hx1 := h128 0 (by simp)
    simp at hx1
    have ih := nb_dv (y :: l) (fun z hz => hy z (by simp at hz ⊢; exact Or.inr hz)) (fun t ht => by
      have := h128 (t + 1) (by simp at ht ⊢; omega)
      simpa [List.getD] using this) (by simp) (by simpa [List.getD] using h1) (fun _ => by
      have := h2 (by simp)
      simpa [List.getD] using this)
    have h0 := dv_nonneg (y :: l)
    have hpos : 1 ≤ dv (y :: l) := by
      refine Classical.byContradiction fun c => ?_
      have c0 : dv (y :: l) = 0 := by omega
      rw [c0, show (0 : Int).toNat = 0 from rfl, nb_small (by omega)] at ih
      have hl : l = [] := by
        have := congrArg List.length ih
        simpa using this
      subst hl
      simp at ih
      have := h2 (by simp)
      simp at this
      omega
    have e : dv (x :: y :: l) = x % 128 + 128 * dv (y :: l) := rfl
    rw [nb_big (n := (dv (x :: y :: l)).toNat) (by rw [e]; omega), e]
    have e1 : (x % 128 + 128 * dv (y :: l)).toNat / 128 = (dv (y :: l)).toNat := by omega
    have e2 : (((x % 128 + 128 * dv (y :: l)).toNat % 128 : Nat) : Int) + 128 = x := by omega
    rw [e1, e2, ih]
end Go.Proofs.Ytlnakhbcefmiaaa
