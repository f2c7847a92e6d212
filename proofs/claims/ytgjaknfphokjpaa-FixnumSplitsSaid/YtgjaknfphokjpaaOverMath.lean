/- Plain arithmetic on numbers, no program: a division bit by bit. -/
import Derived.Test.YtgjaknfphokjpaaTimesMath
namespace Go.Proofs.Ytgjaknfphokjpaa
namespace Rf

/-- 2 to the k, as a number; what stands above the k lowest bits. -/
def P2 (k : Nat) : Int := 2 ^ k
theorem P2_pos (k : Nat) : 0 < P2 k := Int.pow_pos (by decide)
theorem P2_succ (k : Nat) : P2 (k + 1) = P2 k * 2 := Int.pow_succ _ _
theorem P2_add (i k : Nat) : P2 (i + k) = P2 i * P2 k := Int.pow_add _ _ _
theorem T_P2 (k : Nat) : T k = P2 (16 * k) := by
  induction k with
  | zero => rfl
  | succ k ih => rw [T_succ, ih, show 16 * (k + 1) = 16 * k + 16 from rfl, P2_add]; rfl
theorem up_step (A : Int) (j : Nat) : A / P2 j = 2 * (A / P2 (j + 1)) + A / P2 j % 2 := by
  rw [P2_succ, ← Int.ediv_ediv_of_nonneg (Int.le_of_lt (P2_pos j))]; omega
theorem bit_of (A : Int) (j : Nat) : dg A (j / 16) / P2 (j % 16) % 2 = A / P2 j % 2 := by
  have hj : j = 16 * (j / 16) + j % 16 := by omega
  have h16 : j % 16 < 16 := Nat.mod_lt _ (by decide)
  have e : A / P2 j = A / T (j / 16) / P2 (j % 16) := by
    conv => lhs; rw [hj]
    rw [P2_add, ← T_P2, Int.ediv_ediv_of_nonneg (Int.le_of_lt (T_pos _))]
  rw [e]
  unfold dg
  generalize A / T (j / 16) = D
  generalize j % 16 = r at h16
  have hp : (65536 : Int) = P2 r * (2 * P2 (15 - r)) := by
    rw [show 2 * P2 (15 - r) = P2 (15 - r + 1) by rw [P2_succ]; omega, ← P2_add, show r + (15 - r + 1) = 16 by omega]; rfl
  have hd := Int.mul_ediv_add_emod D 65536
  have h1 : D / P2 r = D % 65536 / P2 r + 2 * (P2 (15 - r) * (D / 65536)) := by
    conv => lhs; rw [← hd]
    rw [Int.add_comm]
    conv => lhs; rw [hp]
    rw [Int.mul_assoc, Int.add_mul_ediv_left _ _ (by have := P2_pos r; omega), ← hp, Int.mul_assoc]
  rw [h1]; omega
theorem top_zero (A : Int) (h0 : 0 ≤ A) (h : A < T 12) : A / P2 192 = 0 := Int.ediv_eq_zero_of_lt h0 (by rw [show (192 : Nat) = 16 * 12 from rfl, ← T_P2]; exact h)
theorem low_all (A : Int) : A / P2 0 = A := Int.ediv_one A

/-- A step of the division: the rest, doubled, with a bit more, is less than the divisor; or it is not. -/
theorem div_less (H C b : Int) (hC : 0 < C) (hb : 0 ≤ b) (h : 2 * (H % C) + b < C) : (2 * H + b) / C = 2 * (H / C) ∧ (2 * H + b) % C = 2 * (H % C) + b := by
  have e := Int.mul_ediv_add_emod H C
  have m0 := Int.emod_nonneg H (show C ≠ 0 by omega)
  exact (Int.ediv_emod_unique (a := 2 * H + b) (b := C) (r := 2 * (H % C) + b) (q := 2 * (H / C)) hC).2 ⟨by rw [Int.mul_left_comm]; omega, by omega, h⟩
theorem div_more (H C b : Int) (hC : 0 < C) (hb : b ≤ 1) (h : C ≤ 2 * (H % C) + b) : (2 * H + b) / C = 2 * (H / C) + 1 ∧ (2 * H + b) % C = 2 * (H % C) + b - C := by
  have e := Int.mul_ediv_add_emod H C
  have m1 := Int.emod_lt_of_pos H hC
  exact (Int.ediv_emod_unique (a := 2 * H + b) (b := C) (r := 2 * (H % C) + b - C) (q := 2 * (H / C) + 1) hC).2 ⟨by rw [Int.mul_add, Int.mul_left_comm, Int.mul_one]; omega, by omega, by omega⟩
theorem dg_odd (q : Int) (k : Nat) : dg (2 * q + 1) k = if k = 0 then dg (2 * q) 0 + 1 else dg (2 * q) k := by
  cases k with
  | zero => rw [if_pos rfl]; unfold dg; rw [at_zero, at_zero]; omega
  | succ k =>
    rw [if_neg (by omega)]
    unfold dg
    have h : ∀ x : Int, x / T (k + 1) = x / 2 / (32768 * T k) := fun x => by
      rw [T_succ, Int.ediv_ediv_of_nonneg (by decide : (0 : Int) ≤ 2)]
      congr 1
      rw [← Int.mul_assoc, Int.mul_comm]
      omega
    rw [h, h, show (2 * q + 1) / 2 = q by omega, show 2 * q / 2 = q by omega]
end Rf
end Go.Proofs.Ytgjaknfphokjpaa
