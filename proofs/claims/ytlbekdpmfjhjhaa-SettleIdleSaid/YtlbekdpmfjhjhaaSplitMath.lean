/- Plain arithmetic on the parts of a total by weights, no program: the shares rounded down, the rests, and what is left over, which is given to the greatest rests. -/
import Derived.Test.YtlbekdpmfjhjhaaFixA
import Derived.Test.YtlbekdpmfjhjhaaSortMath
namespace Go.Proofs.Ytlbekdpmfjhjhaa
namespace Sp

/-- The sum of f below n. -/
def su (f : Nat → Int) : Nat → Int
  | 0 => 0
  | n + 1 => su f n + f n
theorem su_add (f g : Nat → Int) : ∀ n, su (fun t => f t + g t) n = su f n + su g n
  | 0 => rfl
  | n + 1 => by simp only [su]; rw [su_add f g n]; omega
theorem su_mul (c : Int) (f : Nat → Int) : ∀ n, su (fun t => c * f t) n = c * su f n
  | 0 => by simp [su]
  | n + 1 => by simp only [su]; rw [su_mul c f n, Int.mul_add]
theorem su_le {f g : Nat → Int} : ∀ {n : Nat}, (∀ t, t < n → f t ≤ g t) → su f n ≤ su g n
  | 0, _ => Int.le_refl _
  | n + 1, h => Int.add_le_add (su_le fun t ht => h t (by omega)) (h n (by omega))
theorem su_eq {f g : Nat → Int} {n : Nat} (h : ∀ t, t < n → f t = g t) : su f n = su g n :=
  Int.le_antisymm (su_le fun t ht => Int.le_of_eq (h t ht)) (su_le fun t ht => Int.le_of_eq (h t ht).symm)
theorem su_nonneg {f : Nat → Int} : ∀ {n : Nat}, (∀ t, t < n → 0 ≤ f t) → 0 ≤ su f n
  | 0, _ => Int.le_refl _
  | n + 1, h => Int.add_nonneg (su_nonneg fun t ht => h t (by omega)) (h n (by omega))
theorem su_mono {f : Nat → Int} {n k : Nat} (h : ∀ t, t < n → 0 ≤ f t) (hk : k ≤ n) : su f k ≤ su f n := by
  induction n with
  | zero => rw [show k = 0 by omega]; exact Int.le_refl _
  | succ n ih =>
    rcases Nat.eq_or_lt_of_le hk with rfl | h1
    · exact Int.le_refl _
    · have h2 := ih (fun t ht => h t (by omega)) (by omega)
      have h3 := h n (by omega)
      simp only [su]; omega
theorem su_ge {f : Nat → Int} (h : ∀ t, 0 ≤ f t) {p n : Nat} (hp : p < n) : f p ≤ su f n := by
  have h1 := su_mono (f := f) (n := n) (k := p + 1) (fun t _ => h t) hp
  have h2 : 0 ≤ su f p := su_nonneg fun t _ => h t
  simp only [su] at h1
  omega
theorem su_const (c : Int) : ∀ n : Nat, su (fun _ => c) n = c * n
  | 0 => by simp [su]
  | n + 1 => by simp only [su]; rw [su_const c n, Int.natCast_add, Int.mul_add]; simp
theorem sm_su (ws : List Int) : ∀ k, k ≤ ws.length → sm (ws.take k) = su (fun t => ws.getD t 0) k
  | 0, _ => by simp [su, sm]
  | k + 1, h => by rw [sm_take ws k (by omega), sm_su ws k (by omega)]; rfl

/-- A weight's share, rounded down, and its rest; the rests as keys of places. -/
def sh (T S : Int) (ws : List Int) (t : Nat) : Int := T * ws.getD t 0 / S
def rs (T S : Int) (ws : List Int) (t : Nat) : Int := T * ws.getD t 0 % S
def ky (T S : Int) (ws : List Int) (x : Int) : Int := rs T S ws x.toNat
/-- How often a place is among the first k of g. -/
def hit (g : Nat → Int) : Nat → Nat → Int
  | 0, _ => 0
  | k + 1, t => hit g k t + if g k = t then 1 else 0

/-- A total and weights that are divided. -/
def Ok (T S : Int) (ws : List Int) : Prop := 0 < T ∧ T ≤ 9223372036854775807 ∧ 0 < S ∧ S ≤ 9223372036854775807 ∧ (∀ t, 0 ≤ ws.getD t 0) ∧ sm ws = S
variable {T S : Int} {ws : List Int}
theorem Ok.all (h : Ok T S ws) : su (fun t => ws.getD t 0) ws.length = S := by
  rw [← sm_su ws ws.length (Nat.le_refl _), List.take_length]; exact h.2.2.2.2.2
theorem Ok.part (h : Ok T S ws) {k : Nat} (hk : k ≤ ws.length) : su (fun t => ws.getD t 0) k ≤ S := by
  rw [← h.all]; exact su_mono (fun t _ => h.2.2.2.2.1 t) hk
theorem Ok.one (h : Ok T S ws) (t : Nat) : 0 ≤ ws.getD t 0 ∧ ws.getD t 0 ≤ S := by
  refine ⟨h.2.2.2.2.1 t, ?_⟩
  by_cases ht : t < ws.length
  · have h1 := h.part (k := t + 1) ht
    have h2 : 0 ≤ su (fun t => ws.getD t 0) t := su_nonneg fun t _ => h.2.2.2.2.1 t
    simp only [su] at h1
    omega
  · have : ws.getD t 0 = 0 := by simp [List.getD, Nat.le_of_not_lt ht]
    rw [this]
    have := h.2.2.1
    omega
theorem Ok.prod (h : Ok T S ws) (t : Nat) : 0 ≤ T * ws.getD t 0 ∧ T * ws.getD t 0 ≤ T * S :=
  ⟨Int.mul_nonneg (by have := h.1; omega) (h.one t).1, Int.mul_le_mul_of_nonneg_left (h.one t).2 (by have := h.1; omega)⟩
theorem Ok.sh (h : Ok T S ws) (t : Nat) : 0 ≤ sh T S ws t ∧ sh T S ws t ≤ T := by
  have hS := h.2.2.1
  refine ⟨Int.le_ediv_of_mul_le hS ?_, Int.ediv_le_of_le_mul hS ?_⟩
  · rw [Int.zero_mul]; exact (h.prod t).1
  · exact (h.prod t).2
theorem Ok.rs (h : Ok T S ws) (t : Nat) : 0 ≤ rs T S ws t ∧ rs T S ws t < S :=
  ⟨Int.emod_nonneg _ (by have := h.2.2.1; omega), Int.emod_lt_of_pos _ h.2.2.1⟩
theorem sh_rs (t : Nat) : S * sh T S ws t + rs T S ws t = T * ws.getD t 0 := Int.mul_ediv_add_emod _ _
theorem Ok.high (h : Ok T S ws) (t : Nat) : T * ws.getD t 0 / 18446744073709551616 < S := by
  refine Int.ediv_lt_of_lt_mul (by omega) ?_
  have h1 := (h.prod t).2
  have h2 : T * S ≤ 9223372036854775807 * S := Int.mul_le_mul_of_nonneg_right h.2.1 (by have := h.2.2.1; omega)
  have := h.2.2.1
  omega
/-- All shares and rests together. -/
theorem su_all (k : Nat) : S * su (Sp.sh T S ws) k + su (Sp.rs T S ws) k = T * su (fun t => ws.getD t 0) k := by
  rw [← su_mul, ← su_mul, ← su_add]
  exact su_eq fun t _ => sh_rs t
theorem Ok.left (h : Ok T S ws) {k : Nat} (hk : k ≤ ws.length) : su (Sp.sh T S ws) k ≤ T := by
  have h1 := su_all (T := T) (S := S) (ws := ws) k
  have h2 : 0 ≤ su (Sp.rs T S ws) k := su_nonneg fun t _ => (h.rs t).1
  have h3 : T * su (fun t => ws.getD t 0) k ≤ T * S := Int.mul_le_mul_of_nonneg_left (h.part hk) (by have := h.1; omega)
  have h4 : S * su (Sp.sh T S ws) k ≤ S * T := by rw [Int.mul_comm S T]; omega
  exact Int.le_of_mul_le_mul_left h4 h.2.2.1
theorem Ok.rest (h : Ok T S ws) : S * (T - su (Sp.sh T S ws) ws.length) = su (Sp.rs T S ws) ws.length := by
  have h1 := su_all (T := T) (S := S) (ws := ws) ws.length
  rw [h.all] at h1
  rw [Int.mul_sub, Int.mul_comm S T]
  omega
theorem Ok.few (h : Ok T S ws) : T - su (Sp.sh T S ws) ws.length ≤ ws.length := by
  have h1 := h.rest
  have h2 : su (Sp.rs T S ws) ws.length ≤ su (fun _ => S) ws.length := su_le fun t _ => Int.le_of_lt (h.rs t).2
  rw [su_const] at h2
  exact Int.le_of_mul_le_mul_left (by omega) h.2.2.1
end Sp
end Go.Proofs.Ytlbekdpmfjhjhaa
