/- Plain arithmetic on numbers written in digits of 16 bits, no program: sums, differences, comparisons, products and quotients digit by digit. -/
import Derived.WalkArith
namespace Go.Proofs.Ytlbekdpmfjhjhaa
namespace Rf

/-- 65536 to the k. -/
def T (k : Nat) : Int := 65536 ^ k
theorem T_pos (k : Nat) : 0 < T k := Int.pow_pos (by decide)
theorem T_ne (k : Nat) : T k ≠ 0 := by have := T_pos k; omega
theorem T_succ (k : Nat) : T (k + 1) = T k * 65536 := Int.pow_succ _ _
theorem T_zero : T 0 = 1 := rfl
theorem T_add (i k : Nat) : T (i + k) = T i * T k := Int.pow_add _ _ _
/-- The k-th digit; what lies below it. -/
def dg (N : Int) (k : Nat) : Int := N / T k % 65536
def md (N : Int) (k : Nat) : Int := N % T k
theorem dg_bd (N : Int) (k : Nat) : 0 ≤ dg N k ∧ dg N k ≤ 65535 := by unfold dg; omega
theorem md_bd (N : Int) (k : Nat) : 0 ≤ md N k ∧ md N k < T k := ⟨Int.emod_nonneg _ (T_ne k), Int.emod_lt_of_pos _ (T_pos k)⟩
theorem md_zero (N : Int) : md N 0 = 0 := by unfold md; rw [T_zero]; exact Int.emod_one N
theorem split (N : Int) (k : Nat) : T k * (N / T k) + md N k = N := Int.mul_ediv_add_emod N (T k)
theorem div_succ (N : Int) (k : Nat) : N / T (k + 1) = N / T k / 65536 := by rw [T_succ, Int.ediv_ediv_of_nonneg (Int.le_of_lt (T_pos k))]
theorem div_dg (N : Int) (k : Nat) : N / T k = N / T (k + 1) * 65536 + dg N k := by rw [div_succ]; unfold dg; omega
theorem md_succ (N : Int) (k : Nat) : md N (k + 1) = md N k + T k * dg N k := by
  have h1 := split N k
  have h2 : T k * (65536 * (N / T (k + 1))) + md N (k + 1) = N := by rw [← Int.mul_assoc, ← T_succ]; exact split N (k + 1)
  have h3 := div_dg N k
  rw [h3, Int.mul_add] at h1
  rw [Int.mul_comm (N / T (k + 1)) 65536] at h1
  omega
theorem step (x y : Int) (k : Nat) : (x + T k * y) / T (k + 1) = (x / T k + y) / 65536 := by
  rw [T_succ, Int.ediv_ediv_of_nonneg (Int.le_of_lt (T_pos k)) |>.symm, Int.add_mul_ediv_left _ _ (T_ne k)]
theorem quo (x y : Int) (k : Nat) : (x + T k * y) / T k = x / T k + y := Int.add_mul_ediv_left _ _ (T_ne k)

/-! ### Sums -/
/-- The carry into digit k of a sum; the borrow out of it of a difference. -/
def pc (A B : Int) (k : Nat) : Int := (md A k + md B k) / T k
def bc (A B : Int) (k : Nat) : Int := -((md A k - md B k) / T k)
theorem pc_zero (A B : Int) : pc A B 0 = 0 := by unfold pc; rw [md_zero, md_zero]; rfl
theorem bc_zero (A B : Int) : bc A B 0 = 0 := by unfold bc; rw [md_zero, md_zero]; rfl
theorem pc_bd (A B : Int) (k : Nat) : 0 ≤ pc A B k ∧ pc A B k ≤ 1 := by
  have a := md_bd A k
  have b := md_bd B k
  have h : pc A B k < 2 := Int.ediv_lt_of_lt_mul (T_pos k) (by omega)
  exact ⟨Int.ediv_nonneg (by omega) (by omega), by omega⟩
theorem bc_bd (A B : Int) (k : Nat) : 0 ≤ bc A B k ∧ bc A B k ≤ 1 := by
  have a := md_bd A k
  have b := md_bd B k
  have h : (md A k - md B k) / T k < 1 := Int.ediv_lt_of_lt_mul (T_pos k) (by omega)
  have h' : -1 ≤ (md A k - md B k) / T k := Int.le_ediv_of_mul_le (T_pos k) (by omega)
  unfold bc
  omega
theorem pc_succ (A B : Int) (k : Nat) : pc A B (k + 1) = (pc A B k + dg A k + dg B k) / 65536 := by
  unfold pc
  rw [md_succ, md_succ, show md A k + T k * dg A k + (md B k + T k * dg B k) = (md A k + md B k) + T k * (dg A k + dg B k) by rw [Int.mul_add]; omega, step]
  congr 1; omega
theorem bc_succ (A B : Int) (k : Nat) : bc A B (k + 1) = -((dg A k - dg B k - bc A B k) / 65536) := by
  unfold bc
  rw [md_succ, md_succ, show md A k + T k * dg A k - (md B k + T k * dg B k) = (md A k - md B k) + T k * (dg A k - dg B k) by rw [Int.mul_sub]; omega, step]
  congr 2; omega
theorem dg_add (A B : Int) (k : Nat) : dg (A + B) k = (pc A B k + dg A k + dg B k) % 65536 := by
  have a := split A k
  have b := split B k
  have e : A + B = (md A k + md B k) + T k * (A / T k + B / T k) := by rw [Int.mul_add]; omega
  have h : (A + B) / T k = pc A B k + (A / T k + B / T k) := by unfold pc; rw [← quo, ← e]
  unfold dg
  rw [h]; omega
theorem dg_sub (A B : Int) (k : Nat) : dg (A - B) k = (dg A k - dg B k - bc A B k) % 65536 := by
  have a := split A k
  have b := split B k
  have e : A - B = (md A k - md B k) + T k * (A / T k - B / T k) := by rw [Int.mul_sub]; omega
  have h : (A - B) / T k = -bc A B k + (A / T k - B / T k) := by unfold bc; rw [Int.neg_neg, ← quo, ← e]
  unfold dg
  rw [h]; omega
/-- As the texts reckon a borrow. -/
theorem borrow (x : Int) : (65536 + x) % 65536 = x % 65536 ∧ 1 - (65536 + x) / 65536 = -(x / 65536) := by omega
/-- Digits hang on what is left below 65536 to the 12 alone. -/
theorem dg_mod (N : Int) (k n : Nat) (h : k < n) : dg (N % T n) k = dg N k := by
  obtain ⟨m, rfl⟩ : ∃ m, n = k + 1 + m := ⟨n - (k + 1), by omega⟩
  have e : T (k + 1 + m) = T k * (65536 * T m) := by rw [T_add, T_succ, Int.mul_assoc]
  have h1 := Int.mul_ediv_add_emod N (T (k + 1 + m))
  have h2 : N % T (k + 1 + m) / T k = N / T k - 65536 * T m * (N / T (k + 1 + m)) := by
    have h3 : N % T (k + 1 + m) = N + T k * (-(65536 * T m * (N / T (k + 1 + m)))) := by
      rw [Int.mul_neg, ← Int.mul_assoc, ← e]; omega
    rw [h3, quo]; omega
  unfold dg
  rw [h2, Int.mul_assoc]
  omega

/-! ### Comparisons -/
theorem same_up {A B : Int} {k : Nat} (h : A / T (k + 1) = B / T (k + 1)) (d : dg A k = dg B k) : A / T k = B / T k := by rw [div_dg A, div_dg B, h, d]
theorem less_at {A B : Int} {k : Nat} (h : A / T (k + 1) = B / T (k + 1)) (d : dg A k < dg B k) : A < B := by
  have a := div_dg A k
  have b := div_dg B k
  rcases Int.lt_or_le A B with h' | h'
  · exact h'
  · have := Int.ediv_le_ediv (T_pos k) h'
    omega
theorem small {A : Int} {k : Nat} (h0 : 0 ≤ A) (h : A < T k) : A / T k = 0 := Int.ediv_eq_zero_of_lt h0 h
theorem at_zero (A : Int) : A / T 0 = A := by rw [T_zero]; exact Int.ediv_one A
end Rf
end Go.Proofs.Ytlbekdpmfjhjhaa
