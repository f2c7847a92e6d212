/- Contract of math/bits.Div64: the quotient and the rest of a number of two words by one word. Conditions: the upper word is less than the divisor. -/
import Derived.Test.YtlbekdpmfjhjhaaDivMath
import Derived.Test.YtlbekdpmfjhjhaaShelf
import Derived.BigQuiet
import Derived.Deep.QuietTactic
namespace Go.Proofs.Ytlbekdpmfjhjhaa
open Go.RowKit

theorem ret2u {x y x' y' : Int} (h : x = x') (k : y = y') : Ending.returned (.tuple #[.int .u64 x, .int .u64 y]) = Ending.returned (.tuple #[.int .u64 x', .int .u64 y']) := by rw [h, k]

set_option maxHeartbeats 400000 in
theorem div64_zero (lo y : Int) (h0 : 0 ≤ lo) (h1 : lo ≤ 18446744073709551615) (hy0 : 1 ≤ y) (hy1 : y ≤ 18446744073709551615) (w : World) :
    Calls Try.prog 40 #[.int .u64 0, .int .u64 lo, .int .u64 y] w fun e w' => e = .returned (.tuple #[.int .u64 (lo / y), .int .u64 (lo % y)]) ∧ ∃ n, w' = w.drewN n := by
  go_enter Try.func40, Try.ntmps40
  go_wp2
  go_quiet (fail)
  go_wp2
  go_ret2
  exact ⟨rfl, _, rfl⟩

/-- The words of a guess's rest, where it does not pass what is divided. -/
theorem gs_word {a b u d : Int} (h : Dv.Ar a b u d) : IntKind.u64.wrap (u - IntKind.u64.wrap (u / a * a)) = u - u / a * a := by
  have g := Dv.start h
  have := g.sum
  have := g.r0
  have := g.r1
  have := h.u0
  have := h.u1
  have := h.a1
  have := h.b1
  simp only [IntKind.wrap_u64]
  generalize u / a * a = t at *
  omega

set_option maxHeartbeats 2000000 in
theorem div64_big (hi lo y : Nat) (s : Nat) (u z d1 d0 a b q1 q0 v R : Int) (hh : 1 ≤ hi) (hy0 : hi < y) (_hy1 : y ≤ 18446744073709551615) (_hl : lo ≤ 18446744073709551615)
    (hs : s ≤ 63) (w : World) (LZ : Calls Try.prog 45 #[.int .u64 y] w fun e w' => e = .returned (.int .i64 s) ∧ w = w')
    (eY : IntKind.u64.wrap ((y : Int) * 2 ^ s) = a * 4294967296 + b) (ea : (a * 4294967296 + b) / 4294967296 = a) (eb : bits .and .u64 (a * 4294967296 + b) 4294967295 = b)
    (eu : bits .or .u64 (IntKind.u64.wrap ((hi : Int) * 2 ^ s)) ((lo : Int) / 2 ^ (64 - s)) = u) (ez : IntKind.u64.wrap ((lo : Int) * 2 ^ s) = z)
    (e1 : z / 4294967296 = d1) (e0 : bits .and .u64 z 4294967295 = d0) (hA : Dv.Ar a b u d1) (hA2 : Dv.Ar a b v d0) (_hz0 : 0 ≤ z) (_hz1 : z < 18446744073709551616)
    (hq1 : (u * 4294967296 + d1) / (a * 4294967296 + b) = q1) (ev : IntKind.u64.wrap (IntKind.u64.wrap (IntKind.u64.wrap (u * 4294967296) + d1) - IntKind.u64.wrap (q1 * (a * 4294967296 + b))) = v)
    (hq0 : (v * 4294967296 + d0) / (a * 4294967296 + b) = q0)
    (hR : IntKind.u64.wrap (IntKind.u64.wrap (IntKind.u64.wrap (v * 4294967296) + d0) - IntKind.u64.wrap (q0 * (a * 4294967296 + b))) / 2 ^ s = R) :
    Calls Try.prog 40 #[.int .u64 hi, .int .u64 lo, .int .u64 y] w fun e w' => e = .returned (.tuple #[.int .u64 (q1 * 4294967296 + q0), .int .u64 R]) ∧ w = w' := by
  have HB := Lib.hid LZ
  have HQ := Lib.hid hq1
  have HQ0 := Lib.hid hq0
  have HR := Lib.hid hR
  have HA := Lib.hid hA
  have HA2 := Lib.hid hA2
  have EV := Lib.hid ev
  have b1 := hA.qt0
  have b2 := hA.qt1
  have b3 := hA2.qt0
  have b4 := hA2.qt1
  rw [hq1] at b1 b2
  rw [hq0] at b3 b4
  have k1 := hA.a0
  have k2 := hA.a1
  have k3 := hA.b0
  have k4 := hA.b1
  have k5 := hA.u0
  have k6 := hA.u1
  have k7 := hA.d0
  have k8 := hA.d1
  have j5 := hA2.u0
  have j6 := hA2.u1
  have j7 := hA2.d0
  have j8 := hA2.d1
  have S := Dv.start hA
  have s1 := S.q0
  have s2 := S.q1
  have HS := Lib.hid S
  have S' := Dv.start hA2
  have s1' := S'.q0
  have s2' := S'.q1
  have HS' := Lib.hid S'
  have ES := Lib.hid (gs_word hA)
  have ES' := Lib.hid (gs_word hA2)
  clear LZ hq1 hq0 hR hA hA2 S S' ev
  go_enter Try.func40, Try.ntmps40
  go_wp2_with (go_at_call 45; refine HB.out.mono ?_; rintro e w' ⟨rfl, rfl⟩)
  rw [ES.out]
  clear eY eu ez e0 e1 ea eb s1 s2 ES HB
  go_loop [15, 16] (fun q r => ∃ q' r' : Int, q = .int .u64 q' ∧ r = .int .u64 r' ∧ Dv.Gs a b u d1 q' r') (fun q _ => (intOf q).toNat)
  case atStart => exact ⟨_, _, rfl, rfl, HS.out⟩
  case round =>
    obtain ⟨q, r, rfl, rfl, G⟩ := hrel
    have g3 := G.r0
    have g4 := G.r1
    have g1 := G.q0
    rcases Dv.cases HA.out G with ⟨p, rfl, p0, p1, pc, pr, G'⟩ | hex
    · have HG := Lib.hid G'
      clear G G' g1
      rcases pc with pc | ⟨pc, pd, pm, pn⟩
      · go_wp2
        go_round
        case rel => exact ⟨_, _, rfl, rfl, HG.out⟩
        case measure => simp [intOf]; omega
      · go_wp2
        go_round
        case rel => exact ⟨_, _, rfl, rfl, HG.out⟩
        case measure => simp [intOf]; omega
    · clear G
      rcases hex with ⟨p, rfl, p0, p1, pc | ⟨pc, pd, pm, pn⟩, pr, hp⟩ | ⟨p, rfl, p1, pc, pm, pn, hp⟩
      all_goals
        have hp' := hp.trans HQ.out
        clear hp
        subst hp'
        have ev := EV.out
        go_wp2
        clear ev
        rw [ES'.out]
        go_loop [18, 16] (fun q r => ∃ q' r' : Int, q = .int .u64 q' ∧ r = .int .u64 r' ∧ Dv.Gs a b v d0 q' r') (fun q _ => (intOf q).toNat)
        case atStart => exact ⟨_, _, rfl, rfl, HS'.out⟩
        case round =>
          clear pc g1 g3 g4
          obtain ⟨t, r, rfl, rfl, G⟩ := hrel
          have g3 := G.r0
          have g4 := G.r1
          have g1 := G.q0
          rcases Dv.cases HA2.out G with ⟨t, rfl, t0, t1, tc, tr, G'⟩ | hex
          · have HG := Lib.hid G'
            clear G G' g1
            rcases tc with tc | ⟨tc, td, tm, tn⟩
            · go_wp2
              go_round
              case rel => exact ⟨_, _, rfl, rfl, HG.out⟩
              case measure => simp [intOf]; omega
            · go_wp2
              go_round
              case rel => exact ⟨_, _, rfl, rfl, HG.out⟩
              case measure => simp [intOf]; omega
          · clear G
            rcases hex with ⟨t, rfl, t0, t1, tc | ⟨tc, td, tm, tn⟩, tr, ht⟩ | ⟨t, rfl, t1, tc, tm, tn, ht⟩
            all_goals
              have ht' := ht.trans HQ0.out
              clear ht
              subst ht'
              have hR := HR.out
              go_wp2
              go_ret2
              exact ⟨rfl, rfl⟩

end Go.Proofs.Ytlbekdpmfjhjhaa
