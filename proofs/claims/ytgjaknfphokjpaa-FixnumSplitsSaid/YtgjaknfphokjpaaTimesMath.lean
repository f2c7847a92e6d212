/- Plain arithmetic on numbers written in digits of 16 bits, no program: products digit by digit. -/
import Derived.Test.YtgjaknfphokjpaaRefMath
namespace Go.Proofs.Ytgjaknfphokjpaa
namespace Rf

theorem mul_mod (a q : Int) : ∃ z, a * q = 65536 * z + a * (q % 65536) := ⟨a * (q / 65536), by
  have e := Int.mul_ediv_add_emod q 65536
  conv => lhs; rw [← e]
  rw [Int.mul_add, Int.mul_left_comm]⟩
/-- The carry into digit i + k, where a times C, moved up by i digits, is added to E. -/
def mc (E C a : Int) (i k : Nat) : Int := (md E (i + k) + T i * (a * md C k)) / T (i + k)
theorem mc_zero (E C a : Int) (i : Nat) : mc E C a i 0 = 0 := by
  unfold mc
  rw [md_zero, Int.mul_zero, Int.mul_zero, Int.add_zero, Nat.add_zero]
  have := md_bd E i
  exact Int.ediv_eq_zero_of_lt this.1 this.2
theorem mc_bd (E C a : Int) (i k : Nat) (h0 : 0 ≤ a) (h1 : a ≤ 65535) : 0 ≤ mc E C a i k ∧ mc E C a i k ≤ 65535 := by
  have b1 := md_bd E (i + k)
  have b2 := md_bd C k
  have t := T_pos i
  have t' := T_pos (i + k)
  have m1 : 0 ≤ T i * (a * md C k) := Int.mul_nonneg (Int.le_of_lt t) (Int.mul_nonneg h0 b2.1)
  have m2 : T i * (a * md C k) ≤ T i * (a * T k) := Int.mul_le_mul_of_nonneg_left (Int.mul_le_mul_of_nonneg_left (by omega) h0) (Int.le_of_lt t)
  have e : T i * (a * T k) = a * T (i + k) := by rw [T_add, Int.mul_left_comm]
  have m3 : (a + 1) * T (i + k) = a * T (i + k) + T (i + k) := by rw [Int.add_mul, Int.one_mul]
  have h : mc E C a i k < a + 1 := Int.ediv_lt_of_lt_mul t' (by omega)
  exact ⟨Int.ediv_nonneg (by omega) (by omega), by omega⟩
theorem mc_succ (E C a : Int) (i k : Nat) : mc E C a i (k + 1) = (mc E C a i k + dg E (i + k) + a * dg C k) / 65536 := by
  unfold mc
  have e : md E (i + (k + 1)) + T i * (a * md C (k + 1)) = (md E (i + k) + T i * (a * md C k)) + T (i + k) * (dg E (i + k) + a * dg C k) := by
    rw [show i + (k + 1) = i + k + 1 from rfl, md_succ, md_succ, Int.mul_add a, Int.mul_add (T i), Int.mul_add (T (i + k)), T_add, Int.mul_left_comm a (T k), ← Int.mul_assoc (T i) (T k)]
    omega
  rw [e, show i + (k + 1) = i + k + 1 from rfl, step]
  congr 1
  omega
theorem mc_dg (E C a : Int) (i k : Nat) : (mc E C a i k + dg E (i + k) + a * dg C k) % 65536 = dg (E + T i * (a * C)) (i + k) := by
  have hE := split E (i + k)
  have hC := split C k
  have e : E + T i * (a * C) = (md E (i + k) + T i * (a * md C k)) + T (i + k) * (E / T (i + k) + a * (C / T k)) := by
    conv => lhs; rw [← hE, ← hC]
    rw [Int.mul_add a, Int.mul_add (T i), Int.mul_add (T (i + k)), T_add, Int.mul_left_comm a (T k), ← Int.mul_assoc (T i) (T k)]
    omega
  have h : (E + T i * (a * C)) / T (i + k) = mc E C a i k + (E / T (i + k) + a * (C / T k)) := by unfold mc; rw [← quo, ← e]
  obtain ⟨z, hz⟩ := mul_mod a (C / T k)
  unfold dg
  rw [h]
  generalize a * (C / T k) = p at *
  generalize a * (C / T k % 65536) = q at *
  omega
theorem dg_low (E X : Int) (i j : Nat) (h : j < i) : dg (E + T i * X) j = dg E j := by
  obtain ⟨m, rfl⟩ : ∃ m, i = j + 1 + m := ⟨i - (j + 1), by omega⟩
  have e : E + T (j + 1 + m) * X = E + T j * (65536 * (T m * X)) := by rw [T_add, T_succ, Int.mul_assoc, Int.mul_assoc]
  unfold dg
  rw [e, quo]
  omega
theorem md_all (A : Int) (n : Nat) (h0 : 0 ≤ A) (h : A < T n) : md A n = A := Int.emod_eq_of_lt h0 h
theorem prod_succ (A C : Int) (i : Nat) : md A (i + 1) * C = md A i * C + T i * (dg A i * C) := by
  rw [md_succ, Int.add_mul, Int.mul_assoc]
end Rf
end Go.Proofs.Ytgjaknfphokjpaa
