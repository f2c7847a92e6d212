/- Contract of math/bits.Div64 for every dividend of two words whose upper word is less than the divisor: it returns the quotient and the rest. -/
import Derived.Test.YtlbekdpmfjhjhaaDiv
namespace Go.Proofs.Ytlbekdpmfjhjhaa
open Go.RowKit

theorem div64_any (hi lo y : Int) (h0 : 0 ≤ hi) (hy0 : hi < y) (hy1 : y ≤ 18446744073709551615) (hl0 : 0 ≤ lo) (hl1 : lo ≤ 18446744073709551615) (w : World) :
    Calls Try.prog 40 #[.int .u64 hi, .int .u64 lo, .int .u64 y] w fun e w' =>
      e = .returned (.tuple #[.int .u64 ((hi * 18446744073709551616 + lo) / y), .int .u64 ((hi * 18446744073709551616 + lo) % y)]) ∧ ∃ n, w' = w.drewN n := by
  by_cases hz : hi = 0
  · subst hz
    refine (div64_zero lo y hl0 hl1 (by omega) hy1 w).mono fun e w' h => ?_
    rw [Int.zero_mul, Int.zero_add]
    exact h
  · obtain ⟨hi, rfl⟩ := Int.eq_ofNat_of_zero_le h0
    obtain ⟨lo, rfl⟩ := Int.eq_ofNat_of_zero_le hl0
    obtain ⟨y, rfl⟩ := Int.eq_ofNat_of_zero_le (a := y) (by omega)
    obtain ⟨s, hs, hs64, hL, hY0, hY1⟩ := Dv.norm y (by omega) (by omega)
    obtain ⟨u, z, eu, ez, hu, hz1, hN⟩ := Dv.words hi lo y s hs (by omega) (by omega) hY1
    have LZ : Calls Try.prog 45 #[.int .u64 y] w fun e w' => e = .returned (.int .i64 s) ∧ w = w' := by
      refine (Try.bits_LeadingZeros64 y w (by omega) (by omega)).mono ?_
      rintro e w' ⟨rfl, rfl⟩
      refine ⟨ret1 ?_, rfl⟩
      rw [Int.toNat_natCast]
      omega
    have cP : ((2 ^ s : Nat) : Int) = (2 : Int) ^ s := by rw [Int.natCast_pow]; rfl
    have cY : ((y * 2 ^ s : Nat) : Int) = (y : Int) * 2 ^ s := by rw [Int.natCast_mul, cP]
    have hP : (0 : Int) < 2 ^ s := by rw [← cP]; have := Nat.two_pow_pos s; omega
    obtain ⟨Y, hYe⟩ : ∃ Y, Y = y * 2 ^ s := ⟨_, rfl⟩
    rw [← hYe] at hY0 hY1 hu cY
    have eY : IntKind.u64.wrap ((y : Int) * 2 ^ s) = ((Y / 4294967296 : Nat) : Int) * 4294967296 + ((Y % 4294967296 : Nat) : Int) := by
      rw [← cY, IntKind.wrap_u64]; omega
    have e9 : ((Y / 4294967296 : Nat) : Int) * 4294967296 + ((Y % 4294967296 : Nat) : Int) = (Y : Int) := by omega
    have hA : Dv.Ar ((Y / 4294967296 : Nat) : Int) ((Y % 4294967296 : Nat) : Int) u ((z / 4294967296 : Nat) : Int) :=
      ⟨by omega, by omega, by omega, by omega, by omega, by omega, by omega, by omega⟩
    have hYp : (0 : Int) < Y := by omega
    have hYq : (Y : Int) < 18446744073709551616 := by omega
    have r1 := Dv.rest hYp hYq ((u : Int) * 4294967296 + ((z / 4294967296 : Nat) : Int))
    have hA2 : Dv.Ar ((Y / 4294967296 : Nat) : Int) ((Y % 4294967296 : Nat) : Int) (((u : Int) * 4294967296 + ((z / 4294967296 : Nat) : Int)) % (Y : Int)) ((z % 4294967296 : Nat) : Int) :=
      ⟨by omega, by omega, by omega, by omega, by omega, by omega, by omega, by omega⟩
    have hNi : (u : Int) * 18446744073709551616 + (z : Int) = ((hi : Int) * 18446744073709551616 + (lo : Int)) * 2 ^ s := by
      have h := congrArg (Nat.cast : Nat → Int) hN
      rw [Int.natCast_add, Int.natCast_mul, Int.natCast_mul, Int.natCast_add, Int.natCast_mul, cP] at h
      exact h
    have B := Dv.both (y := (y : Int)) (P := 2 ^ s) (hi := (hi : Int)) (lo := (lo : Int)) (u := (u : Int)) (z := (z : Int)) (d1 := ((z / 4294967296 : Nat) : Int)) (d0 := ((z % 4294967296 : Nat) : Int)) (Y := (Y : Int)) hP (by omega) cY
      hNi (by omega)
    have W := div64_big hi lo y s u z ((z / 4294967296 : Nat) : Int) ((z % 4294967296 : Nat) : Int) ((Y / 4294967296 : Nat) : Int) ((Y % 4294967296 : Nat) : Int)
      (((u : Int) * 4294967296 + ((z / 4294967296 : Nat) : Int)) / (Y : Int)) ((((u : Int) * 4294967296 + ((z / 4294967296 : Nat) : Int)) % (Y : Int) * 4294967296 + ((z % 4294967296 : Nat) : Int)) / (Y : Int))
      (((u : Int) * 4294967296 + ((z / 4294967296 : Nat) : Int)) % (Y : Int))
      ((((u : Int) * 4294967296 + ((z / 4294967296 : Nat) : Int)) % (Y : Int) * 4294967296 + ((z % 4294967296 : Nat) : Int)) % (Y : Int) / 2 ^ s) (by omega) (by omega) (by omega) (by omega) hs w LZ eY (by omega)
      (by rw [e9]; exact Dv.mask32 Y hY1) eu ez (by omega) (Dv.mask32 z hz1) hA hA2 (by omega) (by omega) (by rw [e9]) (by rw [e9]; exact Dv.restw hYp hYq _ _) (by rw [e9]) (by rw [e9, Dv.restw hYp hYq])
    refine W.mono ?_
    rintro e w' ⟨rfl, rfl⟩
    exact ⟨ret2u B.1 B.2, 0, rfl⟩
end Go.Proofs.Ytlbekdpmfjhjhaa
