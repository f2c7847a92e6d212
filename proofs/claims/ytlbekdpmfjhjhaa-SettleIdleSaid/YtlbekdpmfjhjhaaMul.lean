/- Contracts of fixnum.Mul and fixnum.MulDiv: each returns the true number (a quotient rounded down), or tells that it does not fit in 64 bits, or that the divisor is 0. Conditions: the arguments are int64 numbers. -/
import Derived.Test.YtlbekdpmfjhjhaaDivB
import Derived.Test.YtlbekdpmfjhjhaaFixB
namespace Go.Proofs.Ytlbekdpmfjhjhaa
open Go.RowKit

/-- The two words of a number. -/
def hiw (N : Int) : Int := N / 18446744073709551616
def low (N : Int) : Int := N % 18446744073709551616
theorem low_bd (N : Int) : 0 ≤ low N ∧ low N ≤ 18446744073709551615 := by unfold low; omega
theorem hl (N : Int) : hiw N * 18446744073709551616 + low N = N := by unfold hiw low; omega

theorem mul64_any (x y : Int) (hx : 0 ≤ x) (hx1 : x ≤ 18446744073709551615) (hy : 0 ≤ y) (hy1 : y ≤ 18446744073709551615) (w : World) :
    Calls Try.prog 39 #[.int .u64 x, .int .u64 y] w fun e w' => e = .returned (.tuple #[.int .u64 (hiw (x * y)), .int .u64 (low (x * y))]) ∧ w = w' := by
  obtain ⟨x, rfl⟩ := Int.eq_ofNat_of_zero_le hx
  obtain ⟨y, rfl⟩ := Int.eq_ofNat_of_zero_le hy
  refine (Try.bits_Mul64 x y (by omega) (by omega) w).mono ?_
  rintro e w' ⟨rfl, rfl⟩
  refine ⟨ret2u ?_ ?_, rfl⟩
  · unfold hiw; rw [← Int.natCast_mul]; omega
  · unfold low; rw [← Int.natCast_mul]; omega

theorem div64_hl (N C : Int) (h0 : 0 ≤ N) (h : hiw N < C) (hC : C ≤ 18446744073709551615) (w : World) :
    Calls Try.prog 40 #[.int .u64 (hiw N), .int .u64 (low N), .int .u64 C] w fun e w' => e = .returned (.tuple #[.int .u64 (N / C), .int .u64 (N % C)]) ∧ ∃ n, w' = w.drewN n := by
  have k := div64_any (hiw N) (low N) C (by unfold hiw; omega) h hC (low_bd N).1 (low_bd N).2 w
  rw [hl N] at k
  exact k

/-- Whether a product of two numbers is told with a minus; whether a quotient of it is. -/
def ng (a b : Int) : Bool := (!decide (a < 0) == decide (b < 0))
def ng3 (a b c : Int) : Bool := (!ng a b == decide (c < 0))
theorem ng_eq (a b : Int) : (!decide (a < 0) == decide (b < 0)) = ng a b := rfl
theorem ng3_eq (a b c : Int) : (!ng a b == decide (c < 0)) = ng3 a b c := rfl
theorem sgn_mul (a b : Int) : sgn (ng a b) (mag a * mag b) = a * b := by
  unfold sgn ng mag
  by_cases h : a < 0 <;> by_cases k : b < 0 <;> simp [h, k, Int.neg_mul, Int.mul_neg]
/-- A quotient, rounded down. -/
def fl (x c : Int) : Int := if c < 0 then -x / -c else x / c
theorem fl_eq (a b c : Int) : fl (a * b) c = sgn (ng3 a b c) (mag a * mag b) / mag c := by
  have h := sgn_mul a b
  unfold fl ng3
  rw [← h]
  generalize mag a * mag b = N
  by_cases k : c < 0
  · rw [if_pos k, show mag c = -c from if_pos k]
    cases ng a b <;> simp [sgn, k]
  · rw [if_neg k, show mag c = c from if_neg k]
    cases ng a b <;> simp [sgn, k]
theorem neg_div0 (N C : Int) (hC : 0 < C) (h : N % C = 0) : -N / C = -(N / C) := by
  have e := Int.mul_ediv_add_emod N C
  exact ((Int.ediv_emod_unique (a := -N) (b := C) (r := 0) (q := -(N / C)) hC).2 ⟨by rw [Int.mul_neg]; omega, Int.le_refl 0, hC⟩).1
theorem neg_div1 (N C : Int) (hC : 0 < C) (h : N % C ≠ 0) : -N / C = -(N / C + 1) := by
  have e := Int.mul_ediv_add_emod N C
  have m0 := Int.emod_nonneg N (show C ≠ 0 by omega)
  have m1 := Int.emod_lt_of_pos N hC
  refine ((Int.ediv_emod_unique (a := -N) (b := C) (r := C - N % C) (q := -(N / C + 1)) hC).2 ⟨?_, by omega, by omega⟩).1
  rw [Int.mul_neg, Int.mul_add, Int.mul_one]; omega
theorem mag_pos {c : Int} (h : c ≠ 0) : 0 < mag c := by unfold mag; split <;> omega
theorem prod_bd {a b : Int} (ha : I64 a) (hb : I64 b) : 0 ≤ mag a * mag b ∧ mag a * mag b ≤ 85070591730234615865843651857942052864 := by
  have h1 := mag_bd a ha
  have h2 := mag_bd b hb
  exact ⟨Int.mul_nonneg h1.1 h2.1, Int.mul_le_mul h1.2 h2.2 h2.1 (by decide)⟩

theorem mul_over (a b : Int) (ha : I64 a) (hb : I64 b) (h : (hiw (mag a * mag b) != 0) = true) : 0 = tN (a * b) ∧ 6 = tE (a * b) := by
  have p := prod_bd ha hb
  have e := sgn_mul a b
  have h' : hiw (mag a * mag b) ≠ 0 := by simpa using h
  have A : ¬ I64 (a * b) := by
    rw [← e]
    unfold hiw at h'
    unfold I64 sgn
    generalize mag a * mag b = N at *
    split <;> omega
  exact ⟨(tN_out A).symm, (tE_out A).symm⟩
theorem mul_low (a b : Int) (ha : I64 a) (hb : I64 b) (h : (hiw (mag a * mag b) != 0) = false) : sgn (ng a b) (low (mag a * mag b)) = a * b := by
  have p := prod_bd ha hb
  have h' : hiw (mag a * mag b) = 0 := by simpa using h
  have : low (mag a * mag b) = mag a * mag b := by
    unfold hiw at h'; unfold low
    generalize mag a * mag b = N at *
    omega
  rw [this, sgn_mul]































theorem md_over (a b c : Int) (ha : I64 a) (hb : I64 b) (hc : I64 c) (h0 : c ≠ 0) (h : mag c ≤ hiw (mag a * mag b)) : 0 = tN (fl (a * b) c) ∧ 6 = tE (fl (a * b) c) := by
  have p := prod_bd ha hb
  have mc := mag_bd c hc
  have mp := mag_pos h0
  have A : ¬ I64 (fl (a * b) c) := by
    rw [fl_eq]
    have k : 18446744073709551616 ≤ mag a * mag b / mag c := by
      refine Int.le_ediv_of_mul_le mp ?_
      unfold hiw at h
      generalize mag a * mag b = N at *
      omega
    cases ng3 a b c
    · change ¬ I64 (mag a * mag b / mag c)
      unfold I64; omega
    · change ¬ I64 (-(mag a * mag b) / mag c)
      by_cases z : mag a * mag b % mag c = 0
      · rw [neg_div0 _ _ mp z]; unfold I64; omega
      · rw [neg_div1 _ _ mp z]; unfold I64; omega
  exact ⟨(tN_out A).symm, (tE_out A).symm⟩
theorem md_same (a b c : Int) (h0 : c ≠ 0) (h : ng3 a b c = false ∨ mag a * mag b % mag c = 0) : sgn (ng3 a b c) (mag a * mag b / mag c) = fl (a * b) c := by
  have mp := mag_pos h0
  rw [fl_eq]
  cases k : ng3 a b c
  · rfl
  · rcases h with h | h
    · rw [h] at k; cases k
    · exact (neg_div0 _ _ mp h).symm
theorem md_down (a b c : Int) (h0 : c ≠ 0) (h : ng3 a b c = true) (h' : mag a * mag b % mag c ≠ 0) : sgn (ng3 a b c) (mag a * mag b / mag c + 1) = fl (a * b) c := by
  have mp := mag_pos h0
  rw [fl_eq, h]
  exact (neg_div1 _ _ mp h').symm
theorem md_big (a b c : Int) (h0 : c ≠ 0) (h : ng3 a b c = true) (h' : mag a * mag b % mag c ≠ 0) (k : 9223372036854775808 ≤ mag a * mag b / mag c) : 0 = tN (fl (a * b) c) ∧ 6 = tE (fl (a * b) c) := by
  have A : ¬ I64 (fl (a * b) c) := by
    rw [← md_down a b c h0 h h', h]
    change ¬ I64 (-(mag a * mag b / mag c + 1))
    unfold I64; omega
  exact ⟨(tN_out A).symm, (tE_out A).symm⟩
theorem quo_bd (a b c : Int) (ha : I64 a) (hb : I64 b) (h0 : c ≠ 0) (h : hiw (mag a * mag b) < mag c) : 0 ≤ mag a * mag b / mag c ∧ mag a * mag b / mag c ≤ 18446744073709551615 := by
  have p := prod_bd ha hb
  have mp := mag_pos h0
  refine ⟨Int.ediv_nonneg p.1 (by omega), ?_⟩
  have : mag a * mag b / mag c < 18446744073709551616 := by
    refine Int.ediv_lt_of_lt_mul mp ?_
    unfold hiw at h
    generalize mag a * mag b = N at *
    omega
  omega

theorem ng3_pos {a b c : Int} (h : (decide (a < 0) == decide (b < 0)) = decide (c < 0)) : ng3 a b c = true := by
  unfold ng3 ng; rw [← h]; cases decide (a < 0) <;> cases decide (b < 0) <;> rfl
theorem ng3_neg {a b c : Int} (h : ¬ (decide (a < 0) == decide (b < 0)) = decide (c < 0)) : ng3 a b c = false := by
  unfold ng3 ng
  generalize decide (a < 0) = x at *
  generalize decide (b < 0) = y at *
  generalize decide (c < 0) = z at *
  revert h
  cases x <;> cases y <;> cases z <;> decide























































































end Go.Proofs.Ytlbekdpmfjhjhaa
