/- Plain arithmetic on numbers, no program: why a long division by one word, digit by digit, gives the quotient and the rest. -/
import Derived.Test.YtlbekdpmfjhjhaaFixA
import Derived.Laws.BitsAllLaws
import Derived.Lib.ItoaNum
namespace Go.Proofs.Ytlbekdpmfjhjhaa
open Go.RowKit
namespace Dv

theorem split_mul (q a b : Int) : q * (a * 4294967296 + b) = q * a * 4294967296 + q * b := by rw [Int.mul_add, Int.mul_assoc]

/-- What the digit's loop keeps: a guess that is no less than the digit, and its rest by the divisor's upper half. -/
structure Gs (a b u d q r : Int) : Prop where
  q0 : 0 ≤ q
  q1 : q ≤ 8589934592
  r0 : 0 ≤ r
  r1 : r ≤ 4294967295
  sum : q * a + r = u
  top : (u * 4294967296 + d) / (a * 4294967296 + b) ≤ q

/-- The divisor's halves, and what is divided. -/
structure Ar (a b u d : Int) : Prop where
  a0 : 2147483648 ≤ a
  a1 : a ≤ 4294967295
  b0 : 0 ≤ b
  b1 : b ≤ 4294967295
  u0 : 0 ≤ u
  u1 : u < a * 4294967296 + b
  d0 : 0 ≤ d
  d1 : d ≤ 4294967295

variable {a b u d q r : Int}

theorem mul_bd {x y : Int} (hx : 0 ≤ x) (hx1 : x ≤ 4294967295) (hy : 0 ≤ y) (hy1 : y ≤ 4294967295) : 0 ≤ x * y ∧ x * y ≤ 18446744065119617025 :=
  ⟨Int.mul_nonneg hx hy, Int.mul_le_mul hx1 hy1 hy (by decide)⟩

theorem Ar.pos (h : Ar a b u d) : 0 < a * 4294967296 + b := by have := h.a0; have := h.b0; omega
theorem Ar.qt0 (h : Ar a b u d) : 0 ≤ (u * 4294967296 + d) / (a * 4294967296 + b) := by
  refine Int.ediv_nonneg ?_ (Int.le_of_lt h.pos)
  have := h.u0; have := h.d0; omega
theorem Ar.qt1 (h : Ar a b u d) : (u * 4294967296 + d) / (a * 4294967296 + b) < 4294967296 := by
  refine Int.ediv_lt_of_lt_mul h.pos ?_
  have := h.u1; have := h.d1; omega

theorem start (h : Ar a b u d) : Gs a b u d (u / a) (u - u / a * a) := by
  have ha : 0 < a := by have := h.a0; omega
  have e := Int.mul_ediv_add_emod u a
  have m0 := Int.emod_nonneg u (show a ≠ 0 by omega)
  have m1 := Int.emod_lt_of_pos u ha
  rw [Int.mul_comm] at e
  have hr : u - u / a * a = u % a := by omega
  have hq : (u * 4294967296 + d) / (a * 4294967296 + b) ≤ u / a := by
    refine Int.le_ediv_of_mul_le ha ?_
    have h1 := Int.ediv_mul_le (u * 4294967296 + d) (show a * 4294967296 + b ≠ 0 by have := h.pos; omega)
    rw [split_mul] at h1
    have h2 := Int.mul_nonneg h.qt0 h.b0
    have := h.d1
    omega
  have hu : u / a < 8589934593 := by
    refine Int.ediv_lt_of_lt_mul ha ?_
    have := h.u1; have := h.a0; have := h.b1
    omega
  refine ⟨Int.ediv_nonneg h.u0 (by omega), by omega, by omega, by have := h.a1; omega, by omega, hq⟩

/-- The guess is too great. -/
theorem over (h : Ar a b u d) (g : Gs a b u d q r) (hc : 4294967296 ≤ q ∨ 4294967296 * r + d < q * b) : (u * 4294967296 + d) / (a * 4294967296 + b) ≤ q - 1 := by
  rcases hc with hc | hc
  · have := h.qt1; omega
  · have : (u * 4294967296 + d) / (a * 4294967296 + b) < q := by
      refine Int.ediv_lt_of_lt_mul h.pos ?_
      rw [split_mul]
      have := g.sum
      omega
    omega
theorem next (h : Ar a b u d) (g : Gs a b u d q r) (hc : 4294967296 ≤ q ∨ 4294967296 * r + d < q * b) (hr : r + a ≤ 4294967295) : Gs a b u d (q - 1) (r + a) := by
  have h1 := over h g hc
  have h2 := h.qt0
  have h3 := g.sum
  have h4 : (q - 1) * a = q * a - a := by rw [Int.sub_mul, Int.one_mul]
  refine ⟨by omega, by have := g.q1; omega, by have := g.r0; have := h.a0; omega, hr, by omega, h1⟩
/-- The guess is the digit. -/
theorem done (h : Ar a b u d) (g : Gs a b u d q r) (hc : q * b ≤ 4294967296 * r + d) : q = (u * 4294967296 + d) / (a * 4294967296 + b) := by
  have h1 : q ≤ (u * 4294967296 + d) / (a * 4294967296 + b) := by
    refine Int.le_ediv_of_mul_le h.pos ?_
    rw [split_mul]
    have := g.sum
    omega
  have := g.top
  omega
theorem broke (h : Ar a b u d) (g : Gs a b u d q r) (hc : 4294967296 ≤ q ∨ 4294967296 * r + d < q * b) (hr : 4294967296 ≤ r + a) : q - 1 = (u * 4294967296 + d) / (a * 4294967296 + b) := by
  have h1 := over h g hc
  have h2 := h.qt0
  have h3 := g.sum
  have h4 : (q - 1) * a = q * a - a := by rw [Int.sub_mul, Int.one_mul]
  have h5 : q - 1 < 4294967296 := by
    refine Int.lt_of_mul_lt_mul_right (a := a) ?_ (by have := h.a0; omega)
    have := h.u1; have := h.b1
    omega
  have h6 := (mul_bd (x := q - 1) (y := b) (by omega) (by omega) h.b0 h.b1).2
  have h7 : q - 1 ≤ (u * 4294967296 + d) / (a * 4294967296 + b) := by
    refine Int.le_ediv_of_mul_le h.pos ?_
    rw [split_mul]
    have := h.d0
    omega
  omega

/-- A round of the digit's loop: the guess goes down by one and the round goes on; or it goes down to the digit; or it is the digit. -/
theorem cases (h : Ar a b u d) (g : Gs a b u d q r) :
    (∃ p, q = p + 1 ∧ 0 ≤ p ∧ p ≤ 8589934591 ∧ (4294967296 ≤ p + 1 ∨ p + 1 < 4294967296 ∧ 4294967296 * r + d < (p + 1) * b ∧ 0 ≤ (p + 1) * b ∧ (p + 1) * b ≤ 18446744065119617025) ∧ r + a ≤ 4294967295 ∧ Gs a b u d p (r + a)) ∨
    (∃ p, q = p + 1 ∧ 0 ≤ p ∧ p ≤ 4294967295 ∧ (4294967296 ≤ p + 1 ∨ p + 1 < 4294967296 ∧ 4294967296 * r + d < (p + 1) * b ∧ 0 ≤ (p + 1) * b ∧ (p + 1) * b ≤ 18446744065119617025) ∧ 4294967296 ≤ r + a ∧ p = (u * 4294967296 + d) / (a * 4294967296 + b)) ∨
    (∃ p, q = p ∧ p ≤ 4294967295 ∧ p * b ≤ 4294967296 * r + d ∧ 0 ≤ p * b ∧ p * b ≤ 18446744065119617025 ∧ p = (u * 4294967296 + d) / (a * 4294967296 + b)) := by
  have t0 := h.qt0
  have t1 := h.qt1
  have := g.q1
  by_cases hc : 4294967296 ≤ q ∨ q < 4294967296 ∧ 4294967296 * r + d < q * b
  · have hc' : 4294967296 ≤ q ∨ 4294967296 * r + d < q * b := hc.imp id (·.2)
    have ho := over h g hc'
    have e : q - 1 + 1 = q := by omega
    have hc : 4294967296 ≤ q ∨ q < 4294967296 ∧ 4294967296 * r + d < q * b ∧ 0 ≤ q * b ∧ q * b ≤ 18446744065119617025 :=
      hc.imp id fun k => ⟨k.1, k.2, mul_bd g.q0 (by omega) h.b0 h.b1⟩
    by_cases hr : r + a ≤ 4294967295
    · exact .inl ⟨q - 1, e.symm, by omega, by omega, by rw [e]; exact hc, hr, next h g hc' hr⟩
    · have hb := broke h g hc' (by omega)
      exact .inr (.inl ⟨q - 1, e.symm, by omega, by omega, by rw [e]; exact hc, by omega, hb⟩)
  · have m := mul_bd (x := q) (y := b) g.q0 (by omega) h.b0 h.b1
    exact .inr (.inr ⟨q, rfl, by omega, by omega, m.1, m.2, done h g (by omega)⟩)

/-- The rest behind a digit, as the words give it. -/
theorem rest {Y : Int} (hY : 0 < Y) (hY1 : Y < 18446744073709551616) (N : Int) :
    0 ≤ N - N / Y * Y ∧ N - N / Y * Y = N % Y ∧ N % Y < Y ∧ N % Y < 18446744073709551616 := by
  have e := Int.mul_ediv_add_emod N Y
  have m0 := Int.emod_nonneg N (show Y ≠ 0 by omega)
  have m1 := Int.emod_lt_of_pos N hY
  rw [Int.mul_comm] at e
  exact ⟨by omega, by omega, m1, by omega⟩
theorem restw {Y : Int} (hY : 0 < Y) (hY1 : Y < 18446744073709551616) (u d : Int) :
    IntKind.u64.wrap (IntKind.u64.wrap (IntKind.u64.wrap (u * 4294967296) + d) - IntKind.u64.wrap ((u * 4294967296 + d) / Y * Y)) = (u * 4294967296 + d) % Y := by
  obtain ⟨h1, h2, h3, h4⟩ := rest hY hY1 (u * 4294967296 + d)
  simp only [IntKind.wrap_u64]
  generalize (u * 4294967296 + d) / Y * Y = t at *
  omega

/-- The two digits are the quotient, and the last rest is the rest. -/
theorem both {y P hi lo u z d1 d0 Y : Int} (hP : 0 < P) (hy : 0 < y) (hY : Y = y * P) (hN : u * 18446744073709551616 + z = (hi * 18446744073709551616 + lo) * P) (hz : z = d1 * 4294967296 + d0) :
    (u * 4294967296 + d1) / Y * 4294967296 + ((u * 4294967296 + d1) % Y * 4294967296 + d0) / Y = (hi * 18446744073709551616 + lo) / y ∧
    ((u * 4294967296 + d1) % Y * 4294967296 + d0) % Y / P = (hi * 18446744073709551616 + lo) % y := by
  have hY0 : 0 < Y := by rw [hY]; exact Int.mul_pos hy hP
  have e1 := Int.mul_ediv_add_emod (u * 4294967296 + d1) Y
  have e2 := Int.mul_ediv_add_emod ((u * 4294967296 + d1) % Y * 4294967296 + d0) Y
  have m0 := Int.emod_nonneg ((u * 4294967296 + d1) % Y * 4294967296 + d0) (show Y ≠ 0 by omega)
  have m1 := Int.emod_lt_of_pos ((u * 4294967296 + d1) % Y * 4294967296 + d0) hY0
  generalize (u * 4294967296 + d1) % Y = r1 at *
  generalize (u * 4294967296 + d1) / Y = q1 at *
  generalize (r1 * 4294967296 + d0) % Y = r0 at *
  generalize (r1 * 4294967296 + d0) / Y = q0 at *
  generalize hN' : hi * 18446744073709551616 + lo = N at *
  have e3 : Y * (q1 * 4294967296 + q0) = Y * q1 * 4294967296 + Y * q0 := by rw [Int.mul_add, Int.mul_assoc]
  have e4 : N * P = Y * (q1 * 4294967296 + q0) + r0 := by omega
  generalize q1 * 4294967296 + q0 = Q at *
  have e5 : r0 = (N - y * Q) * P := by
    rw [Int.sub_mul, Int.mul_right_comm, ← hY]; omega
  have h0 : 0 ≤ N - y * Q := by
    rcases Int.lt_or_le (N - y * Q) 0 with h | h
    · have := Int.mul_neg_of_neg_of_pos h hP; omega
    · exact h
  have h1 : N - y * Q < y := by
    refine Int.lt_of_mul_lt_mul_right (a := P) ?_ (by omega)
    rw [← hY, ← e5]; exact m1
  have h2 : r0 / P = N - y * Q := by rw [e5]; exact Int.mul_ediv_cancel _ (by omega)
  have h3 : N / y = Q ∧ N % y = N - y * Q := by
    have := (Int.ediv_emod_unique (a := N) (b := y) (r := N - y * Q) (q := Q) hy).2 ⟨by omega, h0, h1⟩
    exact this
  exact ⟨h3.1.symm, by rw [h2, h3.2]⟩

theorem pow_split (s : Nat) (h : s ≤ 63) : 2 ^ s * 2 ^ (64 - s) = (18446744073709551616 : Nat) := by
  rw [← Nat.pow_add, show s + (64 - s) = 64 by omega]
/-- The shift that brings the divisor's first bit to the top. -/
theorem norm (y : Nat) (hy : 1 ≤ y) (hy1 : y < 18446744073709551616) : ∃ s : Nat, s ≤ 63 ∧ 64 - Lib.bitLen y = s ∧ Lib.bitLen y ≤ 64 ∧ 9223372036854775808 ≤ y * 2 ^ s ∧ y * 2 ^ s < 18446744073709551616 := by
  obtain ⟨h1, h2, h3⟩ := Lib.bitLenAux_bounds 64 y hy1 (by omega)
  have h4 := Lib.bitLen_le y 64 (Nat.le_refl _) hy1
  change 1 ≤ Lib.bitLen y at h1
  change 2 ^ (Lib.bitLen y - 1) ≤ y at h2
  change y < 2 ^ Lib.bitLen y at h3
  generalize Lib.bitLen y = L at *
  refine ⟨64 - L, by omega, rfl, h4, ?_, ?_⟩
  · have : 2 ^ (L - 1) * 2 ^ (64 - L) = (9223372036854775808 : Nat) := by rw [← Nat.pow_add, show L - 1 + (64 - L) = 63 by omega]
    rw [← this]; exact Nat.mul_le_mul_right _ h2
  · have : 2 ^ L * 2 ^ (64 - L) = (18446744073709551616 : Nat) := by rw [← Nat.pow_add, show L + (64 - L) = 64 by omega]
    rw [← this]; exact Nat.mul_lt_mul_of_pos_right h3 (Nat.two_pow_pos _)
/-- The dividend's words, shifted. -/
theorem words (hi lo y s : Nat) (hs : s ≤ 63) (hlo : lo < 18446744073709551616) (hh : hi < y) (hY : y * 2 ^ s < 18446744073709551616) :
    ∃ u z : Nat, bits .or .u64 (IntKind.u64.wrap ((hi : Int) * 2 ^ s)) ((lo : Int) / 2 ^ (64 - s)) = u ∧ IntKind.u64.wrap ((lo : Int) * 2 ^ s) = z ∧ u < y * 2 ^ s ∧ z < 18446744073709551616 ∧
      u * 18446744073709551616 + z = (hi * 18446744073709551616 + lo) * 2 ^ s := by
  have hp := pow_split s hs
  have hP : 0 < 2 ^ s := Nat.two_pow_pos s
  have hR : 0 < 2 ^ (64 - s) := Nat.two_pow_pos _
  have c1 : ((hi : Int) * 2 ^ s) = ((hi * 2 ^ s : Nat) : Int) := by rw [Int.natCast_mul, Int.natCast_pow]; rfl
  have c2 : ((lo : Int) / 2 ^ (64 - s)) = ((lo / 2 ^ (64 - s) : Nat) : Int) := by rw [Int.natCast_ediv, Int.natCast_pow]; rfl
  have c3 : ((lo : Int) * 2 ^ s) = ((lo * 2 ^ s : Nat) : Int) := by rw [Int.natCast_mul, Int.natCast_pow]; rfl
  rw [c1, c2, c3]
  generalize hPe : 2 ^ s = P at *
  generalize hRe : 2 ^ (64 - s) = R at *
  have h1 : hi * P + P ≤ y * P := by
    have := Nat.mul_le_mul_right P (show hi + 1 ≤ y by omega)
    rwa [Nat.add_mul, Nat.one_mul] at this
  have h2 : lo / R < P := Nat.div_lt_of_lt_mul (by rw [Nat.mul_comm]; omega)
  have h3 := Nat.div_add_mod lo R
  have h4 := Nat.mod_lt lo hR
  refine ⟨hi * P + lo / R, lo % R * P, ?_, ?_, by omega, ?_, ?_⟩
  · rw [IntKind.wrap_u64, show ((hi * P : Nat) : Int) % 18446744073709551616 = ((hi * P : Nat) : Int) by omega,
      u64_or_nat _ _ (by omega) (by omega)]
    congr 1
    rw [← hPe]
    exact nat_join s _ _ (Nat.mul_mod_left _ _) (by rw [hPe]; exact h2)
  · rw [IntKind.wrap_u64]
    have h5 : lo * P = lo / R * 18446744073709551616 + lo % R * P := by
      rw [← hp]
      conv => lhs; rw [← h3]
      rw [Nat.add_mul]
      congr 1
      rw [Nat.mul_comm R, Nat.mul_assoc, Nat.mul_comm R]
    have h6 : lo % R * P < R * P := Nat.mul_lt_mul_of_pos_right h4 hP
    rw [Nat.mul_comm R, hp] at h6
    omega
  · have h6 : lo % R * P < R * P := Nat.mul_lt_mul_of_pos_right h4 hP
    rw [Nat.mul_comm R, hp] at h6
    exact h6
  · have h5 : lo * P = lo / R * 18446744073709551616 + lo % R * P := by
      rw [← hp]
      conv => lhs; rw [← h3]
      rw [Nat.add_mul]
      congr 1
      rw [Nat.mul_comm R, Nat.mul_assoc, Nat.mul_comm R]
    rw [Nat.add_mul, Nat.add_mul, h5, Nat.mul_right_comm]
    omega
theorem mask32 (Y : Nat) (h : Y < 18446744073709551616) : bits .and .u64 (Y : Int) 4294967295 = ((Y % 4294967296 : Nat) : Int) := by
  rw [show (4294967295 : Int) = ((4294967295 : Nat) : Int) from rfl, u64_and_nat _ _ h (by decide)]
  congr 1
  exact Nat.and_two_pow_sub_one_eq_mod Y 32
end Dv
end Go.Proofs.Ytlbekdpmfjhjhaa
