/- Texts of a proof, laid together: Div, DivB, FixB, Mul, Known, Ref. -/
import Derived.BigQuiet
import Derived.Deep.QuietTactic
import Derived.RowKit3
import Derived.Deep.MidRow
import Derived.Great.BuildSlice
import Derived.Test.YtpfhkmppbochnaaG02
import Derived.Test.YtpfhkmppbochnaaG01
/- Contract of math/bits.Div64: the quotient and the rest of a number of two words by one word. Conditions: the upper word is less than the divisor. -/
namespace Go.Proofs.Ytpfhkmppbochnaa
open Go.RowKit

theorem ret2u {x y x' y' : Int} (h : x = x') (k : y = y') : Ending.returned (.tuple #[.int .u64 x, .int .u64 y]) = Ending.returned (.tuple #[.int .u64 x', .int .u64 y']) := by rw [h, k]

set_option maxHeartbeats 400000 in
theorem div64_zero (lo y : Int) (h0 : 0 ≤ lo) (h1 : lo ≤ 18446744073709551615) (hy0 : 1 ≤ y) (hy1 : y ≤ 18446744073709551615) (w : World) :
    Calls Try.prog 38 #[.int .u64 0, .int .u64 lo, .int .u64 y] w fun e w' => e = .returned (.tuple #[.int .u64 (lo / y), .int .u64 (lo % y)]) ∧ ∃ n, w' = w.drewN n := by
  go_enter Try.func38, Try.ntmps38
  go_wp2
  go_quiet (fail)
  go_wp2
  go_ret2
  exact ⟨rfl, _, rfl⟩

/-- The words of a guess's rest, where it does not pass what is divided. -/
theorem gs_word {a b u d : Int} (h : Dv.Ar a b u d) : IntKind.u64.wrap (u - IntKind.u64.wrap (u / a * a)) = u - u / a * a := by
  have g := Dv.start h
  have := g.sum
  have := g.r0
  have := g.r1
  have := h.u0
  have := h.u1
  have := h.a1
  have := h.b1
  simp only [IntKind.wrap_u64]
  generalize u / a * a = t at *
  omega

set_option maxHeartbeats 2000000 in
theorem div64_big (hi lo y : Nat) (s : Nat) (u z d1 d0 a b q1 q0 v R : Int) (hh : 1 ≤ hi) (hy0 : hi < y) (_hy1 : y ≤ 18446744073709551615) (_hl : lo ≤ 18446744073709551615)
    (hs : s ≤ 63) (w : World) (LZ : Calls Try.prog 43 #[.int .u64 y] w fun e w' => e = .returned (.int .i64 s) ∧ w = w')
    (eY : IntKind.u64.wrap ((y : Int) * 2 ^ s) = a * 4294967296 + b) (ea : (a * 4294967296 + b) / 4294967296 = a) (eb : bits .and .u64 (a * 4294967296 + b) 4294967295 = b)
    (eu : bits .or .u64 (IntKind.u64.wrap ((hi : Int) * 2 ^ s)) ((lo : Int) / 2 ^ (64 - s)) = u) (ez : IntKind.u64.wrap ((lo : Int) * 2 ^ s) = z)
    (e1 : z / 4294967296 = d1) (e0 : bits .and .u64 z 4294967295 = d0) (hA : Dv.Ar a b u d1) (hA2 : Dv.Ar a b v d0) (_hz0 : 0 ≤ z) (_hz1 : z < 18446744073709551616)
    (hq1 : (u * 4294967296 + d1) / (a * 4294967296 + b) = q1) (ev : IntKind.u64.wrap (IntKind.u64.wrap (IntKind.u64.wrap (u * 4294967296) + d1) - IntKind.u64.wrap (q1 * (a * 4294967296 + b))) = v)
    (hq0 : (v * 4294967296 + d0) / (a * 4294967296 + b) = q0)
    (hR : IntKind.u64.wrap (IntKind.u64.wrap (IntKind.u64.wrap (v * 4294967296) + d0) - IntKind.u64.wrap (q0 * (a * 4294967296 + b))) / 2 ^ s = R) :
    Calls Try.prog 38 #[.int .u64 hi, .int .u64 lo, .int .u64 y] w fun e w' => e = .returned (.tuple #[.int .u64 (q1 * 4294967296 + q0), .int .u64 R]) ∧ w = w' := by
  have HB := Lib.hid LZ
  have HQ := Lib.hid hq1
  have HQ0 := Lib.hid hq0
  have HR := Lib.hid hR
  have HA := Lib.hid hA
  have HA2 := Lib.hid hA2
  have EV := Lib.hid ev
  have b1 := hA.qt0
  have b2 := hA.qt1
  have b3 := hA2.qt0
  have b4 := hA2.qt1
  rw [hq1] at b1 b2
  rw [hq0] at b3 b4
  have k1 := hA.a0
  have k2 := hA.a1
  have k3 := hA.b0
  have k4 := hA.b1
  have k5 := hA.u0
  have k6 := hA.u1
  have k7 := hA.d0
  have k8 := hA.d1
  have j5 := hA2.u0
  have j6 := hA2.u1
  have j7 := hA2.d0
  have j8 := hA2.d1
  have S := Dv.start hA
  have s1 := S.q0
  have s2 := S.q1
  have HS := Lib.hid S
  have S' := Dv.start hA2
  have s1' := S'.q0
  have s2' := S'.q1
  have HS' := Lib.hid S'
  have ES := Lib.hid (gs_word hA)
  have ES' := Lib.hid (gs_word hA2)
  clear LZ hq1 hq0 hR hA hA2 S S' ev
  go_enter Try.func38, Try.ntmps38
  go_wp2_with (go_at_call 43; refine HB.out.mono ?_; rintro e w' ⟨rfl, rfl⟩)
  rw [ES.out]
  clear eY eu ez e0 e1 ea eb s1 s2 ES HB
  go_loop [15, 16] (fun q r => ∃ q' r' : Int, q = .int .u64 q' ∧ r = .int .u64 r' ∧ Dv.Gs a b u d1 q' r') (fun q _ => (intOf q).toNat)
  case atStart => exact ⟨_, _, rfl, rfl, HS.out⟩
  case round =>
    obtain ⟨q, r, rfl, rfl, G⟩ := hrel
    have g3 := G.r0
    have g4 := G.r1
    have g1 := G.q0
    rcases Dv.cases HA.out G with ⟨p, rfl, p0, p1, pc, pr, G'⟩ | hex
    · have HG := Lib.hid G'
      clear G G' g1
      rcases pc with pc | ⟨pc, pd, pm, pn⟩
      · go_wp2
        go_round
        case rel => exact ⟨_, _, rfl, rfl, HG.out⟩
        case measure => simp [intOf]; omega
      · go_wp2
        go_round
        case rel => exact ⟨_, _, rfl, rfl, HG.out⟩
        case measure => simp [intOf]; omega
    · clear G
      rcases hex with ⟨p, rfl, p0, p1, pc | ⟨pc, pd, pm, pn⟩, pr, hp⟩ | ⟨p, rfl, p1, pc, pm, pn, hp⟩
      all_goals
        have hp' := hp.trans HQ.out
        clear hp
        subst hp'
        have ev := EV.out
        go_wp2
        clear ev
        rw [ES'.out]
        go_loop [18, 16] (fun q r => ∃ q' r' : Int, q = .int .u64 q' ∧ r = .int .u64 r' ∧ Dv.Gs a b v d0 q' r') (fun q _ => (intOf q).toNat)
        case atStart => exact ⟨_, _, rfl, rfl, HS'.out⟩
        case round =>
          clear pc g1 g3 g4
          obtain ⟨t, r, rfl, rfl, G⟩ := hrel
          have g3 := G.r0
          have g4 := G.r1
          have g1 := G.q0
          rcases Dv.cases HA2.out G with ⟨t, rfl, t0, t1, tc, tr, G'⟩ | hex
          · have HG := Lib.hid G'
            clear G G' g1
            rcases tc with tc | ⟨tc, td, tm, tn⟩
            · go_wp2
              go_round
              case rel => exact ⟨_, _, rfl, rfl, HG.out⟩
              case measure => simp [intOf]; omega
            · go_wp2
              go_round
              case rel => exact ⟨_, _, rfl, rfl, HG.out⟩
              case measure => simp [intOf]; omega
          · clear G
            rcases hex with ⟨t, rfl, t0, t1, tc | ⟨tc, td, tm, tn⟩, tr, ht⟩ | ⟨t, rfl, t1, tc, tm, tn, ht⟩
            all_goals
              have ht' := ht.trans HQ0.out
              clear ht
              subst ht'
              have hR := HR.out
              go_wp2
              go_ret2
              exact ⟨rfl, rfl⟩

end Go.Proofs.Ytpfhkmppbochnaa
/- Contract of math/bits.Div64 for every dividend of two words whose upper word is less than the divisor: it returns the quotient and the rest. -/
namespace Go.Proofs.Ytpfhkmppbochnaa
open Go.RowKit

theorem div64_any (hi lo y : Int) (h0 : 0 ≤ hi) (hy0 : hi < y) (hy1 : y ≤ 18446744073709551615) (hl0 : 0 ≤ lo) (hl1 : lo ≤ 18446744073709551615) (w : World) :
    Calls Try.prog 38 #[.int .u64 hi, .int .u64 lo, .int .u64 y] w fun e w' =>
      e = .returned (.tuple #[.int .u64 ((hi * 18446744073709551616 + lo) / y), .int .u64 ((hi * 18446744073709551616 + lo) % y)]) ∧ ∃ n, w' = w.drewN n := by
  by_cases hz : hi = 0
  · subst hz
    refine (div64_zero lo y hl0 hl1 (by omega) hy1 w).mono fun e w' h => ?_
    rw [Int.zero_mul, Int.zero_add]
    exact h
  · obtain ⟨hi, rfl⟩ := Int.eq_ofNat_of_zero_le h0
    obtain ⟨lo, rfl⟩ := Int.eq_ofNat_of_zero_le hl0
    obtain ⟨y, rfl⟩ := Int.eq_ofNat_of_zero_le (a := y) (by omega)
    obtain ⟨s, hs, hs64, hL, hY0, hY1⟩ := Dv.norm y (by omega) (by omega)
    obtain ⟨u, z, eu, ez, hu, hz1, hN⟩ := Dv.words hi lo y s hs (by omega) (by omega) hY1
    have LZ : Calls Try.prog 43 #[.int .u64 y] w fun e w' => e = .returned (.int .i64 s) ∧ w = w' := by
      refine (Try.bits_LeadingZeros64 y w (by omega) (by omega)).mono ?_
      rintro e w' ⟨rfl, rfl⟩
      refine ⟨ret1 ?_, rfl⟩
      rw [Int.toNat_natCast]
      omega
    have cP : ((2 ^ s : Nat) : Int) = (2 : Int) ^ s := by rw [Int.natCast_pow]; rfl
    have cY : ((y * 2 ^ s : Nat) : Int) = (y : Int) * 2 ^ s := by rw [Int.natCast_mul, cP]
    have hP : (0 : Int) < 2 ^ s := by rw [← cP]; have := Nat.two_pow_pos s; omega
    obtain ⟨Y, hYe⟩ : ∃ Y, Y = y * 2 ^ s := ⟨_, rfl⟩
    rw [← hYe] at hY0 hY1 hu cY
    have eY : IntKind.u64.wrap ((y : Int) * 2 ^ s) = ((Y / 4294967296 : Nat) : Int) * 4294967296 + ((Y % 4294967296 : Nat) : Int) := by
      rw [← cY, IntKind.wrap_u64]; omega
    have e9 : ((Y / 4294967296 : Nat) : Int) * 4294967296 + ((Y % 4294967296 : Nat) : Int) = (Y : Int) := by omega
    have hA : Dv.Ar ((Y / 4294967296 : Nat) : Int) ((Y % 4294967296 : Nat) : Int) u ((z / 4294967296 : Nat) : Int) :=
      ⟨by omega, by omega, by omega, by omega, by omega, by omega, by omega, by omega⟩
    have hYp : (0 : Int) < Y := by omega
    have hYq : (Y : Int) < 18446744073709551616 := by omega
    have r1 := Dv.rest hYp hYq ((u : Int) * 4294967296 + ((z / 4294967296 : Nat) : Int))
    have hA2 : Dv.Ar ((Y / 4294967296 : Nat) : Int) ((Y % 4294967296 : Nat) : Int) (((u : Int) * 4294967296 + ((z / 4294967296 : Nat) : Int)) % (Y : Int)) ((z % 4294967296 : Nat) : Int) :=
      ⟨by omega, by omega, by omega, by omega, by omega, by omega, by omega, by omega⟩
    have hNi : (u : Int) * 18446744073709551616 + (z : Int) = ((hi : Int) * 18446744073709551616 + (lo : Int)) * 2 ^ s := by
      have h := congrArg (Nat.cast : Nat → Int) hN
      rw [Int.natCast_add, Int.natCast_mul, Int.natCast_mul, Int.natCast_add, Int.natCast_mul, cP] at h
      exact h
    have B := Dv.both (y := (y : Int)) (P := 2 ^ s) (hi := (hi : Int)) (lo := (lo : Int)) (u := (u : Int)) (z := (z : Int)) (d1 := ((z / 4294967296 : Nat) : Int)) (d0 := ((z % 4294967296 : Nat) : Int)) (Y := (Y : Int)) hP (by omega) cY
      hNi (by omega)
    have W := div64_big hi lo y s u z ((z / 4294967296 : Nat) : Int) ((z % 4294967296 : Nat) : Int) ((Y / 4294967296 : Nat) : Int) ((Y % 4294967296 : Nat) : Int)
      (((u : Int) * 4294967296 + ((z / 4294967296 : Nat) : Int)) / (Y : Int)) ((((u : Int) * 4294967296 + ((z / 4294967296 : Nat) : Int)) % (Y : Int) * 4294967296 + ((z % 4294967296 : Nat) : Int)) / (Y : Int))
      (((u : Int) * 4294967296 + ((z / 4294967296 : Nat) : Int)) % (Y : Int))
      ((((u : Int) * 4294967296 + ((z / 4294967296 : Nat) : Int)) % (Y : Int) * 4294967296 + ((z % 4294967296 : Nat) : Int)) % (Y : Int) / 2 ^ s) (by omega) (by omega) (by omega) (by omega) hs w LZ eY (by omega)
      (by rw [e9]; exact Dv.mask32 Y hY1) eu ez (by omega) (Dv.mask32 z hz1) hA hA2 (by omega) (by omega) (by rw [e9]) (by rw [e9]; exact Dv.restw hYp hYq _ _) (by rw [e9]) (by rw [e9, Dv.restw hYp hYq])
    refine W.mono ?_
    rintro e w' ⟨rfl, rfl⟩
    exact ⟨ret2u B.1 B.2, 0, rfl⟩
end Go.Proofs.Ytpfhkmppbochnaa
/- Contracts of fixnum.Sum and fixnum.Add: each returns the true sum, or tells that it does not fit in 64 bits. Conditions: the numbers are int64; the list is shorter than 2^60. -/
namespace Go.Proofs.Ytpfhkmppbochnaa
open Go.RowKit

/-- Whether the whole sum does not fit, as Sum asks it. -/
theorem sum_bad (S : Int) (h1 : -100000000000000000000000000000000000000 ≤ S) (h2 : S ≤ 100000000000000000000000000000000000000) (h : (hiS S != up (wrap64 (lw S))) = true) : 0 = tN S ∧ 6 = tE S := by
  have h' : hiS S ≠ up (wrap64 (lw S)) := by simpa using h
  have A : ¬ I64 S := by
    intro hS
    apply h'
    unfold I64 at hS
    unfold hiS up wrap64 lw
    omega
  exact ⟨(tN_out A).symm, (tE_out A).symm⟩
theorem sum_good (S : Int) (h1 : -100000000000000000000000000000000000000 ≤ S) (h2 : S ≤ 100000000000000000000000000000000000000) (h : (hiS S != up (wrap64 (lw S))) = false) : wrap64 (lw S) = tN S ∧ 0 = tE S := by
  have h' : hiS S = up (wrap64 (lw S)) := by simpa using h
  have A : I64 S := by
    unfold hiS up wrap64 lw at h'
    unfold I64
    omega
  rw [tN_in A, tE_in A]
  unfold I64 at A
  unfold wrap64 lw
  exact ⟨by omega, rfl⟩
theorem w64_I64 (n : Int) : I64 (wrap64 n) := by unfold I64 wrap64; omega

set_option maxHeartbeats 1000000 in
theorem sum_any (b off len cap : Nat) (zs : List Int) (w : World) (hz : zs.length = len) (hbig : len ≤ 1152921504606846976) (hr : ∀ n, n ∈ zs → I64 n)
    (hc : ∀ j, j < len → w.cell? ⟨b, off + j, none⟩ = some (.int .i64 (zs.getD j 0))) :
    Calls Try.prog 18 #[.slice (some ⟨b, off, none⟩) len cap] w fun e w' => e = .returned (.tuple #[.int .i64 (tN (sm zs)), .int .i64 (tE (sm zs))]) ∧ w = w' := by
  have HR := Lib.hid hr
  have HZ := Lib.hid hz
  clear hr hz
  go_enter Try.func18, Try.ntmps18
  go_wp2
  go_loop [4, 5, 6, 11] (fun h l c i => ∃ (k : Nat) (cc : Int), k ≤ len ∧ i = .int .i64 k ∧ h = .int .u64 (hiS (sm (zs.take k))) ∧ l = .int .u64 (lw (sm (zs.take k))) ∧ c = .int .u64 cc) (fun _ _ _ i => len - (intOf i).toNat)
  case atStart => exact ⟨0, 0, Nat.zero_le _, rfl, rfl, rfl, rfl⟩
  case round =>
    obtain ⟨k, cc, hk, rfl, rfl, rfl, rfl⟩ := hrel
    by_cases hlt : k < len
    · have hcell := hc k hlt
      have hx : zs.getD k 0 ∈ zs := by
        have h3 : k < zs.length := by have := HZ.out; omega
        rw [show zs.getD k 0 = zs[k] from by simp [List.getD, h3]]
        exact List.getElem_mem _
      have hI := HR.out _ hx
      have HS := Lib.hid (sm_take zs k (by have := HZ.out; omega))
      obtain ⟨x, hxe⟩ : ∃ x, x = zs.getD k 0 := ⟨_, rfl⟩
      rw [← hxe] at hcell hI HS
      have l1 := lw_bd (sm (zs.take k))
      have l2 := hi_bd (sm (zs.take k))
      have l3 := wr_bd x
      have l4 := c_bd _ _ l1 l3
      have l5 := up_bd x
      obtain ⟨S, hS⟩ : ∃ S, S = sm (zs.take k) := ⟨_, rfl⟩
      rw [← hS] at l1 l2 l4 HS
      have e1 := Lib.hid (lo_step S x)
      have e2 := Lib.hid (hi_step S x)
      clear hx
      have HX := Lib.hid hxe
      have HSS := Lib.hid hS
      clear hxe hc
      rw [← hS]
      clear hS
      have hI' := Lib.hid hI
      clear hI
      go_wp2_with (first | simp only [add64 (lw S) (IntKind.u64.wrap x) 0 l1.1 l3.1 (Int.le_refl 0) (by decide)] | simp only [add64 (hiS S) (up x) _ l2.1 l5.1 l4.1 l4.2] | (go_at_call 29; refine (upper_any x hI'.out _).mono ?_; rintro e w' ⟨rfl, rfl⟩))
      go_round
      case rel => exact ⟨k + 1, _, by omega, by go_num, by rw [HS.out, e2.out], by rw [HS.out, e1.out], rfl⟩
      case measure => simp [intOf]; omega
    · obtain rfl : k = len := by omega
      have hT : zs.take k = zs := by rw [← HZ.out]; exact List.take_length
      rw [hT]
      have hb := sm_bd zs HR.out
      have hb1 : -100000000000000000000000000000000000000 ≤ sm zs := by have := HZ.out; omega
      have hb2 : sm zs ≤ 100000000000000000000000000000000000000 := by have := HZ.out; omega
      have B1 := Lib.hid (sum_bad (sm zs) hb1 hb2)
      have B2 := Lib.hid (sum_good (sm zs) hb1 hb2)
      have l1 := lw_bd (sm zs)
      have HI := Lib.hid (w64_I64 (lw (sm zs)))
      clear hb hb1 hb2 hT hc
      go_wp2_with (go_at_call 29; refine (upper_any _ HI.out _).mono ?_; rintro e w' ⟨rfl, rfl⟩)
      · have h : (hiS (sm zs) != up (wrap64 (lw (sm zs)))) = true := by assumption
        go_ret2
        exact ⟨ret2 (B1.out h).1 (B1.out h).2, rfl⟩
      · have h : (hiS (sm zs) != up (wrap64 (lw (sm zs)))) = false := by assumption
        go_ret2
        exact ⟨ret2 (B2.out h).1 (B2.out h).2, rfl⟩

/-- The sum of none. -/
theorem sum_none (c : Nat) (w : World) :
    Calls Try.prog 18 #[.slice none 0 c] w fun e w' => e = .returned (.tuple #[.int .i64 0, .int .i64 0]) ∧ w = w' := by
  go_enter Try.func18, Try.ntmps18
  go_wp2
  go_loop [4, 5, 6, 11] (fun h l _ i => i = .int .i64 0 ∧ h = .int .u64 0 ∧ l = .int .u64 0) (fun _ _ _ _ => 0)
  case atStart => exact ⟨rfl, rfl, rfl⟩
  case round =>
    obtain ⟨rfl, rfl, rfl⟩ := hrel
    go_wp2_with (go_at_call 29; refine (upper_any 0 (by unfold I64; omega) _).mono ?_; rintro e w' ⟨rfl, rfl⟩)
    go_ret2
    exact ⟨rfl, rfl⟩



















end Go.Proofs.Ytpfhkmppbochnaa
/- Contracts of fixnum.Mul and fixnum.MulDiv: each returns the true number (a quotient rounded down), or tells that it does not fit in 64 bits, or that the divisor is 0. Conditions: the arguments are int64 numbers. -/
namespace Go.Proofs.Ytpfhkmppbochnaa
open Go.RowKit

/-- The two words of a number. -/
def hiw (N : Int) : Int := N / 18446744073709551616
def low (N : Int) : Int := N % 18446744073709551616
theorem low_bd (N : Int) : 0 ≤ low N ∧ low N ≤ 18446744073709551615 := by unfold low; omega
theorem hl (N : Int) : hiw N * 18446744073709551616 + low N = N := by unfold hiw low; omega

theorem mul64_any (x y : Int) (hx : 0 ≤ x) (hx1 : x ≤ 18446744073709551615) (hy : 0 ≤ y) (hy1 : y ≤ 18446744073709551615) (w : World) :
    Calls Try.prog 37 #[.int .u64 x, .int .u64 y] w fun e w' => e = .returned (.tuple #[.int .u64 (hiw (x * y)), .int .u64 (low (x * y))]) ∧ w = w' := by
  obtain ⟨x, rfl⟩ := Int.eq_ofNat_of_zero_le hx
  obtain ⟨y, rfl⟩ := Int.eq_ofNat_of_zero_le hy
  refine (Try.bits_Mul64 x y (by omega) (by omega) w).mono ?_
  rintro e w' ⟨rfl, rfl⟩
  refine ⟨ret2u ?_ ?_, rfl⟩
  · unfold hiw; rw [← Int.natCast_mul]; omega
  · unfold low; rw [← Int.natCast_mul]; omega

theorem div64_hl (N C : Int) (h0 : 0 ≤ N) (h : hiw N < C) (hC : C ≤ 18446744073709551615) (w : World) :
    Calls Try.prog 38 #[.int .u64 (hiw N), .int .u64 (low N), .int .u64 C] w fun e w' => e = .returned (.tuple #[.int .u64 (N / C), .int .u64 (N % C)]) ∧ ∃ n, w' = w.drewN n := by
  have k := div64_any (hiw N) (low N) C (by unfold hiw; omega) h hC (low_bd N).1 (low_bd N).2 w
  rw [hl N] at k
  exact k

/-- Whether a product of two numbers is told with a minus; whether a quotient of it is. -/
def ng (a b : Int) : Bool := (!decide (a < 0) == decide (b < 0))
def ng3 (a b c : Int) : Bool := (!ng a b == decide (c < 0))
theorem ng_eq (a b : Int) : (!decide (a < 0) == decide (b < 0)) = ng a b := rfl
theorem ng3_eq (a b c : Int) : (!ng a b == decide (c < 0)) = ng3 a b c := rfl
theorem sgn_mul (a b : Int) : sgn (ng a b) (mag a * mag b) = a * b := by
  unfold sgn ng mag
  by_cases h : a < 0 <;> by_cases k : b < 0 <;> simp [h, k, Int.neg_mul, Int.mul_neg]
/-- A quotient, rounded down. -/
def fl (x c : Int) : Int := if c < 0 then -x / -c else x / c
theorem fl_eq (a b c : Int) : fl (a * b) c = sgn (ng3 a b c) (mag a * mag b) / mag c := by
  have h := sgn_mul a b
  unfold fl ng3
  rw [← h]
  generalize mag a * mag b = N
  by_cases k : c < 0
  · rw [if_pos k, show mag c = -c from if_pos k]
    cases ng a b <;> simp [sgn, k]
  · rw [if_neg k, show mag c = c from if_neg k]
    cases ng a b <;> simp [sgn, k]
theorem neg_div0 (N C : Int) (hC : 0 < C) (h : N % C = 0) : -N / C = -(N / C) := by
  have e := Int.mul_ediv_add_emod N C
  exact ((Int.ediv_emod_unique (a := -N) (b := C) (r := 0) (q := -(N / C)) hC).2 ⟨by rw [Int.mul_neg]; omega, Int.le_refl 0, hC⟩).1
theorem neg_div1 (N C : Int) (hC : 0 < C) (h : N % C ≠ 0) : -N / C = -(N / C + 1) := by
  have e := Int.mul_ediv_add_emod N C
  have m0 := Int.emod_nonneg N (show C ≠ 0 by omega)
  have m1 := Int.emod_lt_of_pos N hC
  refine ((Int.ediv_emod_unique (a := -N) (b := C) (r := C - N % C) (q := -(N / C + 1)) hC).2 ⟨?_, by omega, by omega⟩).1
  rw [Int.mul_neg, Int.mul_add, Int.mul_one]; omega
theorem mag_pos {c : Int} (h : c ≠ 0) : 0 < mag c := by unfold mag; split <;> omega
theorem prod_bd {a b : Int} (ha : I64 a) (hb : I64 b) : 0 ≤ mag a * mag b ∧ mag a * mag b ≤ 85070591730234615865843651857942052864 := by
  have h1 := mag_bd a ha
  have h2 := mag_bd b hb
  exact ⟨Int.mul_nonneg h1.1 h2.1, Int.mul_le_mul h1.2 h2.2 h2.1 (by decide)⟩

theorem mul_over (a b : Int) (ha : I64 a) (hb : I64 b) (h : (hiw (mag a * mag b) != 0) = true) : 0 = tN (a * b) ∧ 6 = tE (a * b) := by
  have p := prod_bd ha hb
  have e := sgn_mul a b
  have h' : hiw (mag a * mag b) ≠ 0 := by simpa using h
  have A : ¬ I64 (a * b) := by
    rw [← e]
    unfold hiw at h'
    unfold I64 sgn
    generalize mag a * mag b = N at *
    split <;> omega
  exact ⟨(tN_out A).symm, (tE_out A).symm⟩
theorem mul_low (a b : Int) (ha : I64 a) (hb : I64 b) (h : (hiw (mag a * mag b) != 0) = false) : sgn (ng a b) (low (mag a * mag b)) = a * b := by
  have p := prod_bd ha hb
  have h' : hiw (mag a * mag b) = 0 := by simpa using h
  have : low (mag a * mag b) = mag a * mag b := by
    unfold hiw at h'; unfold low
    generalize mag a * mag b = N at *
    omega
  rw [this, sgn_mul]































theorem md_over (a b c : Int) (ha : I64 a) (hb : I64 b) (hc : I64 c) (h0 : c ≠ 0) (h : mag c ≤ hiw (mag a * mag b)) : 0 = tN (fl (a * b) c) ∧ 6 = tE (fl (a * b) c) := by
  have p := prod_bd ha hb
  have mc := mag_bd c hc
  have mp := mag_pos h0
  have A : ¬ I64 (fl (a * b) c) := by
    rw [fl_eq]
    have k : 18446744073709551616 ≤ mag a * mag b / mag c := by
      refine Int.le_ediv_of_mul_le mp ?_
      unfold hiw at h
      generalize mag a * mag b = N at *
      omega
    cases ng3 a b c
    · change ¬ I64 (mag a * mag b / mag c)
      unfold I64; omega
    · change ¬ I64 (-(mag a * mag b) / mag c)
      by_cases z : mag a * mag b % mag c = 0
      · rw [neg_div0 _ _ mp z]; unfold I64; omega
      · rw [neg_div1 _ _ mp z]; unfold I64; omega
  exact ⟨(tN_out A).symm, (tE_out A).symm⟩
theorem md_same (a b c : Int) (h0 : c ≠ 0) (h : ng3 a b c = false ∨ mag a * mag b % mag c = 0) : sgn (ng3 a b c) (mag a * mag b / mag c) = fl (a * b) c := by
  have mp := mag_pos h0
  rw [fl_eq]
  cases k : ng3 a b c
  · rfl
  · rcases h with h | h
    · rw [h] at k; cases k
    · exact (neg_div0 _ _ mp h).symm
theorem md_down (a b c : Int) (h0 : c ≠ 0) (h : ng3 a b c = true) (h' : mag a * mag b % mag c ≠ 0) : sgn (ng3 a b c) (mag a * mag b / mag c + 1) = fl (a * b) c := by
  have mp := mag_pos h0
  rw [fl_eq, h]
  exact (neg_div1 _ _ mp h').symm
theorem md_big (a b c : Int) (h0 : c ≠ 0) (h : ng3 a b c = true) (h' : mag a * mag b % mag c ≠ 0) (k : 9223372036854775808 ≤ mag a * mag b / mag c) : 0 = tN (fl (a * b) c) ∧ 6 = tE (fl (a * b) c) := by
  have A : ¬ I64 (fl (a * b) c) := by
    rw [← md_down a b c h0 h h', h]
    change ¬ I64 (-(mag a * mag b / mag c + 1))
    unfold I64; omega
  exact ⟨(tN_out A).symm, (tE_out A).symm⟩
theorem quo_bd (a b c : Int) (ha : I64 a) (hb : I64 b) (h0 : c ≠ 0) (h : hiw (mag a * mag b) < mag c) : 0 ≤ mag a * mag b / mag c ∧ mag a * mag b / mag c ≤ 18446744073709551615 := by
  have p := prod_bd ha hb
  have mp := mag_pos h0
  refine ⟨Int.ediv_nonneg p.1 (by omega), ?_⟩
  have : mag a * mag b / mag c < 18446744073709551616 := by
    refine Int.ediv_lt_of_lt_mul mp ?_
    unfold hiw at h
    generalize mag a * mag b = N at *
    omega
  omega

theorem ng3_pos {a b c : Int} (h : (decide (a < 0) == decide (b < 0)) = decide (c < 0)) : ng3 a b c = true := by
  unfold ng3 ng; rw [← h]; cases decide (a < 0) <;> cases decide (b < 0) <;> rfl
theorem ng3_neg {a b c : Int} (h : ¬ (decide (a < 0) == decide (b < 0)) = decide (c < 0)) : ng3 a b c = false := by
  unfold ng3 ng
  generalize decide (a < 0) = x at *
  generalize decide (b < 0) = y at *
  generalize decide (c < 0) = z at *
  revert h
  cases x <;> cases y <;> cases z <;> decide























































































end Go.Proofs.Ytpfhkmppbochnaa
/- Contract of the statements' own check 'known': it returns true, whatever the memory. -/
namespace Go.Proofs.Ytpfhkmppbochnaa
open Go.RowKit











theorem grown_drewN {w w' : World} (h : Grown w w') (n : Nat) : Grown w (w'.drewN n) := by
  induction n generalizing w' with
  | zero => exact h
  | succ n ih => exact ih h.drew
theorem grown_trans {a b c : World} (h : Grown a b) (k : Grown b c) : Grown a c :=
  ⟨World.keptBut_trans h.1 k.1, fun x => (k.2.1 x).trans (h.2.1 x), Nat.le_trans h.2.2 k.2.2⟩
theorem below_drewN {B : Nat} {a w : World} (h : Below B a w) (n : Nat) : Below B a (w.drewN n) := ⟨h.os, h.tape, h.output, h.size, h.block⟩
/-- Only new blocks, and draws: what a call without side effects leaves. -/
def Quiet (w w' : World) : Prop := Grown w w' ∧ Below w.heap.size w w'
theorem Quiet.refl (w : World) : Quiet w w := ⟨Grown.refl _, Below.refl _ _⟩
theorem Quiet.trans {a b c : World} (h : Quiet a b) (k : Quiet b c) : Quiet a c := ⟨grown_trans h.1 k.1, h.2.trans (k.2.mono h.1.2.2)⟩
theorem Quiet.drewN {a b : World} (h : Quiet a b) (n : Nat) : Quiet a (b.drewN n) := ⟨grown_drewN h.1 n, below_drewN h.2 n⟩
theorem Quiet.drew {a b : World} (h : Quiet a b) : Quiet a b.drew := ⟨h.1.drew, h.2.drew⟩
theorem Quiet.alloc {a b : World} (h : Quiet a b) (c : Array Value) (t : TypeId) : Quiet a (b.alloc (.cells c t)) := ⟨h.1.alloc c t, h.2.alloc h.1.2.2 _⟩










end Go.Proofs.Ytpfhkmppbochnaa
/- Contracts of the document's plain numbers, part one: sums and differences of sizes in twelve digits, and their comparison. -/
namespace Go.Proofs.Ytpfhkmppbochnaa
open Go.RowKit

/-- Twelve digits, as cells. -/
def ar (f : Nat → Int) : Array Value := #[.int .u64 (f 0), .int .u64 (f 1), .int .u64 (f 2), .int .u64 (f 3), .int .u64 (f 4), .int .u64 (f 5), .int .u64 (f 6), .int .u64 (f 7), .int .u64 (f 8), .int .u64 (f 9), .int .u64 (f 10), .int .u64 (f 11)]
theorem ar_size (f : Nat → Int) : (ar f).size = 12 := rfl
theorem ar_get (f : Nat → Int) (k : Nat) (h : k < 12) : (ar f)[k]? = some (.int .u64 (f k)) := by
  match k, h with
  | 0, _ => rfl
  | 1, _ => rfl
  | 2, _ => rfl
  | 3, _ => rfl
  | 4, _ => rfl
  | 5, _ => rfl
  | 6, _ => rfl
  | 7, _ => rfl
  | 8, _ => rfl
  | 9, _ => rfl
  | 10, _ => rfl
  | 11, _ => rfl
theorem ar_ext {f g : Nat → Int} (h : ∀ k, k < 12 → f k = g k) : ar f = ar g := by
  unfold ar
  rw [h 0 (by omega), h 1 (by omega), h 2 (by omega), h 3 (by omega), h 4 (by omega), h 5 (by omega), h 6 (by omega), h 7 (by omega), h 8 (by omega), h 9 (by omega), h 10 (by omega), h 11 (by omega)]
/-- One digit anew. -/
def upd (f : Nat → Int) (i : Nat) (v : Int) : Nat → Int := fun k => if k = i then v else f k
theorem ar_set (f : Nat → Int) (i : Nat) (v : Int) : (ar f).setIfInBounds i (.int .u64 v) = ar (upd f i v) := by
  by_cases h : i < 12
  · match i, h with
    | 0, _ => rfl
    | 1, _ => rfl
    | 2, _ => rfl
    | 3, _ => rfl
    | 4, _ => rfl
    | 5, _ => rfl
    | 6, _ => rfl
    | 7, _ => rfl
    | 8, _ => rfl
    | 9, _ => rfl
    | 10, _ => rfl
    | 11, _ => rfl
  · rw [Array.setIfInBounds_eq_of_size_le (by rw [ar_size]; omega)]
    exact ar_ext fun k hk => by unfold upd; rw [if_neg (by omega)]
theorem ar_one (f : Nat → Int) : (ar f).all (·.oneCell') = true := by unfold ar; simp [Value.oneCell']
/-- The digits of a size. -/
def dgs (N : Int) : Nat → Int := Rf.dg N

/-- A block of cells that may be written. -/
def Row (w : World) (g : Nat) (t : TypeId) (cs : Array Value) : Prop := w.heap[g]? = some (.cells cs t (0, 0))
theorem Row.cell {w : World} {g : Nat} {t : TypeId} {f : Nat → Int} (h : Row w g t (ar f)) (k : Nat) (hk : k < 12) : w.cell? ⟨g, k, none⟩ = some (.int .u64 (f k)) := by
  rw [cell_of_row _ _ _ _ _ _ h]; exact ar_get f k hk
theorem Row.free {w : World} {g : Nat} {t : TypeId} {cs : Array Value} (h : Row w g t cs) (k : Nat) : w.frozen? ⟨g, k, none⟩ = false := frozen_of_row w g k cs t h
theorem Row.drewN {w : World} {g : Nat} {t : TypeId} {cs : Array Value} (h : Row w g t cs) (n : Nat) : Row (w.drewN n) g t cs := h
theorem Row.put {w : World} {g : Nat} {t : TypeId} {f : Nat → Int} (h : Row w g t (ar f)) (i : Nat) (v : Int) : Row (w.setCell ⟨g, i, none⟩ (.int .u64 v)) g t (ar (upd f i v)) := by
  have := heap_setCell_same w g i _ t (.int .u64 v) h
  rwa [ar_set] at this
theorem Row.far {w : World} {g : Nat} {t : TypeId} {cs : Array Value} (h : Row w g t cs) {g' i : Nat} (hne : g ≠ g') (v : Value) : Row (w.setCell ⟨g', i, none⟩ v) g t cs :=
  (heap_setCell_other w ⟨g', i, none⟩ g v hne).trans h
theorem Row.lt {w : World} {g : Nat} {t : TypeId} {cs : Array Value} (h : Row w g t cs) : g < w.heap.size := (Array.getElem?_eq_some_iff.1 h).1
theorem Row.alloc {w : World} {g : Nat} {t : TypeId} {cs : Array Value} (h : Row w g t cs) (o : Obj) : Row (w.alloc o) g t cs := (Below.heap_alloc w o g h.lt).trans h
theorem Row.new (w : World) (t : TypeId) (cs : Array Value) : Row (w.alloc (.cells cs t)) w.heap.size t cs := heap_alloc_new w _
theorem Row.at_ (w : World) (t : TypeId) (cs : Array Value) {k : Nat} (h : w.heap.size = k) : Row (w.alloc (.cells cs t)) k t cs := by subst h; exact Row.new w t cs
theorem Row.below {w w' : World} {B g : Nat} {t : TypeId} {cs : Array Value} (h : Row w g t cs) (b : Below B w w') (hg : g < B) : Row w' g t cs := (b.block g hg).trans h

theorem Quiet.setCell {a b : World} (h : Quiet a b) {p : Addr} (hp : a.heap.size ≤ p.block) (v : Value) : Quiet a (b.setCell p v) := ⟨h.1.setCell hp v, h.2.setCell hp v⟩
theorem Row.whole {w : World} {g : Nat} {t : TypeId} {cs : Array Value} (h : Row w g t cs) (cs' : Array Value) : Row (w.setRow g cs') g t cs' := setRow_heap w g cs cs' t (0, 0) h
theorem Row.apart {w : World} {g g' : Nat} {t : TypeId} {cs : Array Value} (h : Row w g t cs) (hne : g ≠ g') (cs' : Array Value) : Row (w.setRow g' cs') g t cs := (setRow_other w g' g cs' hne).trans h
theorem Quiet.setRow {a b : World} (h : Quiet a b) {g : Nat} {t : TypeId} {cs : Array Value} (r : Row b g t cs) (hg : a.heap.size ≤ g) (cs' : Array Value) : Quiet a (b.setRow g cs') := by
  have hb : Below a.heap.size a (b.setRow g cs') := ⟨h.2.os, h.2.tape, h.2.output, by rw [size_setRow]; exact h.2.size, fun k hk => (setRow_other b g k cs' (by omega)).trans (h.2.block k hk)⟩
  refine ⟨⟨⟨hb.os, hb.output, fun i hi => ?_⟩, fun x => ?_, by rw [size_setRow]; exact h.2.size⟩, hb⟩
  · rw [hb.block i hi]
    split
    · rename_i e1 e2; rw [e1] at e2; cases e2; exact ⟨rfl, rfl, rfl, fun _ _ => rfl⟩
    · rename_i e1 e2; rw [e1] at e2; cases e2; exact .inr ⟨rfl, rfl⟩
    · rfl
  · rw [← h.1.2.1 x]
    unfold World.frozen?
    by_cases e : x.block = g
    · rw [e, r.whole cs', show b.heap[g]? = _ from r]
    · rw [setRow_other b g x.block cs' e]
/-- The first k digits of f, then those of g. -/
def mix (k : Nat) (f g : Nat → Int) : Nat → Int := fun j => if j < k then f j else g j
theorem mix_at (k : Nat) (f g : Nat → Int) : mix k f g k = g k := if_neg (Nat.lt_irrefl k)
theorem mix_put (k : Nat) (f g : Nat → Int) {v : Int} (h : v = f k) : ar (upd (mix k f g) k v) = ar (mix (k + 1) f g) := by
  refine ar_ext fun j _ => ?_
  unfold upd mix
  by_cases e : j = k
  · subst e; rw [if_pos rfl, if_pos (by omega), h]
  · rw [if_neg e]
    by_cases l : j < k
    · rw [if_pos l, if_pos (by omega)]
    · rw [if_neg l, if_neg (by omega)]
theorem mix_zero (f g : Nat → Int) : ar (mix 0 f g) = ar g := ar_ext fun _ _ => rfl
theorem mix_all (f g : Nat → Int) : ar (mix 12 f g) = ar f := ar_ext fun _ h => if_pos h
theorem dgs_bd (N : Int) (k : Nat) : 0 ≤ dgs N k ∧ dgs N k ≤ 65535 := Rf.dg_bd N k
def zs12 : Array Value := #[.int .u64 0, .int .u64 0, .int .u64 0, .int .u64 0, .int .u64 0, .int .u64 0, .int .u64 0, .int .u64 0, .int .u64 0, .int .u64 0, .int .u64 0, .int .u64 0]

set_option maxHeartbeats 1000000 in
theorem plus_any (A B : Int) (w : World) :
    Calls Try.prog 42 #[.agg (ar (dgs A)), .agg (ar (dgs B))] w fun e w' => e = .returned (.agg (ar (dgs (A + B)))) ∧ Quiet w w' := by
  go_enter Try.func42, Try.ntmps42
  go_wp2
  go_loopw [5, 6] (fun c i wr => ∃ k : Nat, k ≤ 12 ∧ i = .int .i64 k ∧ c = .int .u64 (Rf.pc A B k) ∧ Row wr w.heap.size 46 (ar (mix k (dgs (A + B)) (dgs A))) ∧ Row wr (w.heap.size + 1) 46 (ar (dgs B)) ∧
      Row wr (w.heap.size + 1 + 1) 46 zs12 ∧ Quiet w wr) (fun _ i _ => 12 - (intOf i).toNat)
  case atStart =>
    refine ⟨0, by omega, rfl, by rw [Rf.pc_zero], ?_, ?_, ?_, ?_⟩
    · rw [mix_zero]; exact ((Row.new w _ _).alloc _).alloc _
    · exact (Row.at_ (w.alloc _) _ _ (by simp)).alloc _
    · exact Row.at_ ((w.alloc _).alloc _) _ _ (by simp)
    · exact (((Quiet.refl w).alloc _ _).alloc _ _).alloc _ _
  case round =>
    obtain ⟨k, hk, rfl, rfl, r1, r2, r3, hq⟩ := hrel
    by_cases hlt : k < 12
    · have c1 := r1.cell k hlt
      rw [mix_at] at c1
      have c2 := r2.cell k hlt
      have f1 := r1.free k
      have b1 := Rf.pc_bd A B k
      have b2 := dgs_bd A k
      have b3 := dgs_bd B k
      have R1 := Lib.hid r1
      have R2 := Lib.hid r2
      have R3 := Lib.hid r3
      have HQ := Lib.hid hq
      have E1 := Lib.hid (Rf.pc_succ A B k)
      have E2 := Lib.hid (Rf.dg_add A B k)
      clear r1 r2 r3 hq
      go_wp2
      go_quiet (fail)
      go_wp2
      go_roundw
      case rel =>
        refine ⟨k + 1, by omega, by go_num, by rw [E1.out]; rfl, ?_, ?_, ?_, ?_⟩
        · rw [← mix_put k (dgs (A + B)) (dgs A) E2.out.symm]; exact (R1.out.drewN nq).put k _
        · exact (R2.out.drewN nq).far (by omega) _
        · exact (R3.out.drewN nq).far (by omega) _
        · exact (HQ.out.drewN nq).setCell (Nat.le_refl _) _
      case measure => simp [intOf]; omega
    · obtain rfl : k = 12 := by omega
      rw [mix_all] at r1
      have h2 : w.heap.size + 1 + 1 < wr.heap.size := r3.lt
      go_wp2_with (first
        | (refine wpList_load_row rfl 46 _ rfl w.heap.size rfl 46 _ (0, 0) _ r1 Try.underlying46 rfl (by kernel_rfl) ?_)
        | (refine wpList_store_row rfl 46 _ _ rfl (w.heap.size + 1 + 1) _ rfl rfl 46 _ r3 (by kernel_rfl) rfl (ar_one _) ?_))
      exact bodyPost_ret (v := .agg (ar (dgs (A + B)))) (results_cell_row rfl _ _ (w.heap.size + 1 + 1) 46 _ (0, 0) _ rfl (r3.whole _) Try.underlying46 rfl (by kernel_rfl)) rfl
        ⟨rfl, hq.setRow r3 (by omega) _⟩
end Go.Proofs.Ytpfhkmppbochnaa
