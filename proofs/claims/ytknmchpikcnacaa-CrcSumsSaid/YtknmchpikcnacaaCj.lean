/- Contracts of the program's own CRC-32: Sum, More, Join; together what the walks of the statements ask. -/
import Derived.Test.YtknmchpikcnacaaCy
namespace Go.Proofs.Ytknmchpikcnacaa
open Go.RowKit

set_option maxRecDepth 100000 in
theorem sum_any (A : Option Addr) (m c : Nat) (ps : List Pt) (w : World) (h : PtsAt w A m ps) (hy : By (cat ps)) (hl : (cat ps).length ≤ 1000000) (hm : m ≤ 1000000) :
    Calls Try.prog 11 #[.slice A m c] w fun e w' => e = .returned (.int .u32 (Cr.cs (cat ps))) ∧ Below w.heap.size w w' := by
  have S := Lib.hid (after_any Cr.M A m c ps w Cr.M_lt h.bare hy hl hm)
  rw [show ((Cr.M : Nat) : Int) = 4294967295 from rfl] at S
  have hlt := Cr.st_lt Cr.M_lt (cat ps)
  have X := not_any _ hlt
  unfold Cr.cs
  obtain ⟨r, hr⟩ : ∃ r, Cr.st Cr.M (cat ps) = r := ⟨_, rfl⟩
  rw [hr] at S X ⊢
  have HX := Lib.hid X
  clear h hy hr hlt hl X
  go_enter Try.func11, Try.ntmps11
  go_wp2_with fail
  refine S.out.mono ?_; rintro e w1 ⟨rfl, q⟩
  have Q := Lib.hid q
  clear q
  go_wp2_with fail
  go_ret
  refine ⟨?_, Q.out⟩
  rw [← HX.out]
  rfl
set_option maxRecDepth 100000 in
theorem more_any (s n c : Nat) (A : Option Addr) (bs : List Int) (w : World) (hs : s < 4294967296) (h : RdB w A n bs) (hy : By bs) (hn : n ≤ 1000000) :
    Calls Try.prog 15 #[.int .u32 s, .slice A n c] w fun e w' => e = .returned (.int .u32 (Cr.M ^^^ Cr.st (Cr.M ^^^ s) bs : Nat)) ∧ Below w.heap.size w w' := by
  have hns := Cr.not_lt hs
  have PT := ptsr_one (W := w) (p := ⟨A, n, c, bs⟩) h
  have hc : cat [⟨A, n, c, bs⟩] = bs := by simp [cat]
  have S := Lib.hid (after_any (Cr.M ^^^ s) _ 1 1 _ _ hns PT (by rw [hc]; exact hy) (by rw [hc, h.1]; exact hn) (by decide))
  rw [hc] at S
  have hlt := Cr.st_lt hns bs
  have X := not_any _ hlt
  have Y := not_any s hs
  rw [← Y] at S
  obtain ⟨r, hr⟩ : ∃ r, Cr.st (Cr.M ^^^ s) bs = r := ⟨_, rfl⟩
  rw [hr] at S X ⊢
  have HX := Lib.hid X
  have B := Lib.hid ((Below.refl w.heap.size w).alloc (Nat.le_refl _) (.cells #[Pt.v ⟨A, n, c, bs⟩] 23))
  clear h hy hr hns X Y hlt PT hc
  unfold Pt.v at S B
  go_enter Try.func15, Try.ntmps15
  go_wp2_with fail
  refine S.out.mono ?_; rintro e w1 ⟨rfl, q⟩
  have Q := Lib.hid (B.out.trans (q.mono (by simp)))
  clear q
  go_wp2_with fail
  go_ret
  refine ⟨?_, Q.out⟩
  rw [← HX.out]
  rfl
set_option maxRecDepth 100000 in
theorem times_any (a b : Nat) (w : World) (ha : a < 4294967296) (_hb : b < 4294967296) :
    Calls Try.prog 21 #[.int .u32 a, .int .u32 b] w fun e w' => e = .returned (.int .u32 (Cr.tm a b 32 : Nat)) ∧ w = w' := by
  have ST := Lib.hid (fun (x : Nat) (W : World) (h : x < 4294967296) => step_any x W h)
  go_enter Try.func21, Try.ntmps21
  go_wp2_with fail
  go_loop [0, 5, 6, 7] (fun x y _ i => ∃ k : Nat, k ≤ 32 ∧ i = .int .i64 k ∧ x = .int .u32 (Cr.run a Cr.zr k) ∧ y = .int .u32 (Cr.tm a b k)) (fun _ _ _ i => 32 - (intOf i).toNat)
  case atStart => exact ⟨0, Nat.zero_le _, rfl, rfl, rfl⟩
  case round =>
    obtain ⟨k, hk, rfl, rfl, rfl⟩ := hrel
    by_cases hlt : k < 32
    case neg =>
      obtain rfl : k = 32 := by omega
      go_wp2_with fail
      go_ret
      exact ⟨rfl, rfl⟩
    case pos =>
      have hr := Cr.run_lt ha Cr.zr k
      have ht := Cr.tm_lt ha b k
      have hn : Cr.tm a b (k + 1) = Cr.tm a b k ^^^ (if b.testBit (31 - k) then Cr.run a Cr.zr k else 0) := rfl
      have hn2 : Cr.run a Cr.zr (k + 1) = Cr.step (Cr.run a Cr.zr k) false := rfl
      obtain ⟨x, hx⟩ : ∃ x, Cr.run a Cr.zr k = x := ⟨_, rfl⟩
      obtain ⟨y, hy⟩ : ∃ y, Cr.tm a b k = y := ⟨_, rfl⟩
      rw [hx, hy] at hn
      rw [hx] at hr hn2
      rw [hy] at ht
      rw [hx, hy]
      have HN2 := Lib.hid hn2
      have hd : decide ((k : Int) < 32) = true := decide_eq_true (by omega)
      rw [Cr.bit_at] at hn
      obtain ⟨z, hz⟩ : ∃ z, 31 - k = z := ⟨_, rfl⟩
      have hzi : (31 : Int) - (k : Int) = (z : Int) := by omega
      rw [hz] at hn
      clear hx hy hn2 hz
      have hq : (b : Int) / 2 ^ z = ((b / 2 ^ z : Nat) : Int) := by simp
      obtain ⟨q, hqe⟩ : ∃ q, b / 2 ^ z = q := ⟨_, rfl⟩
      rw [hqe] at hn hq
      have HN := Lib.hid hn
      clear hqe hn
      by_cases c : q % 2 = 1
      · have hb1 : ((q : Int) % 2 == 1) = true := by simp; omega
        have HN3 : Hid (Cr.tm a b (k + 1) = y ^^^ x) := Lib.hid (by rw [HN.out, c]; simp)
        have hX := xor_u32 y x ht hr
        clear c
        go_wp2_with fail
        refine (ST.out _ _ hr).mono ?_; rintro e w1 ⟨rfl, rfl⟩
        go_wp2_with fail
        go_round
        case rel => exact ⟨k + 1, hlt, by go_num, by rw [HN2.out], by rw [HN3.out]⟩
        case measure => simp [intOf]; omega
      · have hb1 : ((q : Int) % 2 == 1) = false := by simp; omega
        have HN3 : Hid (Cr.tm a b (k + 1) = y) := Lib.hid (by rw [HN.out]; simp [c])
        clear c
        go_wp2_with fail
        refine (ST.out _ _ hr).mono ?_; rintro e w1 ⟨rfl, rfl⟩
        go_wp2_with fail
        go_round
        case rel => exact ⟨k + 1, hlt, by go_num, by rw [HN2.out], by rw [HN3.out]⟩
        case measure => simp [intOf]; omega
set_option maxRecDepth 100000 in
theorem zeros_any (a n : Nat) (w : World) (ha : a < 4294967296) (hn : n ≤ 1000000) :
    Calls Try.prog 19 #[.int .u32 a, .int .i64 n] w fun e w' => e = .returned (.int .u32 (Cr.run a Cr.zr (8 * n) : Nat)) ∧ w = w' := by
  have TM := Lib.hid (fun (x y : Nat) (W : World) (h : x < 4294967296) (h2 : y < 4294967296) => times_any x y W h h2)
  have H8 := Lib.hid Cr.one_byte
  have HA := Lib.hid ha
  clear ha
  go_enter Try.func19, Try.ntmps19
  go_wp2_with fail
  go_loop [0, 1, 5] (fun r i j => ∃ k p q : Nat, k ≤ n ∧ q + k * p = n ∧ i = .int .i64 k ∧ r = .int .u32 (Cr.run a Cr.zr (8 * q)) ∧ j = .int .u32 (Cr.run Cr.E Cr.zr (8 * p))) (fun _ i _ => (intOf i).toNat)
  case atStart => exact ⟨n, 1, 0, Nat.le_refl _, by omega, rfl, rfl, by rw [show 8 * 1 = 8 from rfl, H8.out]; rfl⟩
  case round =>
    obtain ⟨k, p, q, hk, hq, rfl, rfl, rfl⟩ := hrel
    have HQ := Lib.hid hq
    clear hq
    by_cases h0 : k = 0
    · subst h0
      have e : Hid (q = n) := Lib.hid (by have := HQ.out; omega)
      go_wp2_with fail
      go_ret
      refine ⟨?_, rfl⟩
      rw [e.out]
      rfl
    · have hx := Cr.run_lt HA.out Cr.zr (8 * q)
      have hj := Cr.run_lt Cr.E_lt Cr.zr (8 * p)
      have T1 := Lib.hid (Cr.tm_run hx (8 * p))
      have T2 := Lib.hid (Cr.tm_twice (8 * p))
      have R1 := Lib.hid (Cr.run_more a (8 * q) (8 * p))
      obtain ⟨x, hxe⟩ : ∃ x, Cr.run a Cr.zr (8 * q) = x := ⟨_, rfl⟩
      obtain ⟨j, hje⟩ : ∃ j, Cr.run Cr.E Cr.zr (8 * p) = j := ⟨_, rfl⟩
      rw [hxe] at hx T1 R1 ⊢
      rw [hje] at hj T1 T2 ⊢
      have HX := Lib.hid hxe
      clear hxe hje
      have hkp : 0 < k := Nat.pos_of_ne_zero h0
      by_cases c : k % 2 = 1
      · have hb1 : ((k : Int) % 2 == 1) = true := by simp; omega
        have hks : Hid (k = 2 * (k / 2) + 1) := Lib.hid (by omega)
        clear c h0
        go_wp2_with fail
        refine (TM.out _ _ _ hx hj).mono ?_; rintro e w1 ⟨rfl, rfl⟩
        go_wp2_with fail
        refine (TM.out _ _ _ hj hj).mono ?_; rintro e w1 ⟨rfl, rfl⟩
        go_wp2_with fail
        go_round
        case rel =>
          refine ⟨k / 2, 2 * p, q + p, by omega, ?_, by go_num, ?_, ?_⟩
          · have := HQ.out
            rw [hks.out, Nat.add_mul, Nat.mul_comm 2 (k / 2), Nat.mul_assoc] at this
            omega
          · rw [Nat.mul_add, R1.out, ← T1.out]
          · rw [show 8 * (2 * p) = 8 * p + 8 * p by omega, ← T2.out]
        case measure => simp [intOf]; omega
      · have hb1 : ((k : Int) % 2 == 1) = false := by simp; omega
        have hks : Hid (k = 2 * (k / 2)) := Lib.hid (by omega)
        clear c h0
        go_wp2_with fail
        refine (TM.out _ _ _ hj hj).mono ?_; rintro e w1 ⟨rfl, rfl⟩
        go_wp2_with fail
        go_round
        case rel =>
          refine ⟨k / 2, 2 * p, q, by omega, ?_, by go_num, by rw [HX.out], ?_⟩
          · have := HQ.out
            rw [hks.out, Nat.mul_comm 2 (k / 2), Nat.mul_assoc] at this
            omega
          · rw [show 8 * (2 * p) = 8 * p + 8 * p by omega, ← T2.out]
        case measure => simp [intOf]; omega
set_option maxRecDepth 100000 in
theorem join_any (a b n : Nat) (w : World) (ha : a < 4294967296) (hb : b < 4294967296) (hn : n ≤ 1000000) :
    Calls Try.prog 13 #[.int .u32 a, .int .u32 b, .int .i64 n] w fun e w' => e = .returned (.tuple #[.int .u32 (Cr.run a (fun _ => false) (8 * n) ^^^ b : Nat), .int .i64 0]) ∧ Below w.heap.size w w' := by
  have S := Lib.hid (zeros_any a n w ha hn)
  have hlt := Cr.run_lt ha Cr.zr (8 * n)
  obtain ⟨r, hr⟩ : ∃ r, Cr.run a Cr.zr (8 * n) = r := ⟨_, rfl⟩
  rw [show Cr.run a (fun _ => false) (8 * n) = r from hr]
  rw [hr] at S hlt
  have X := xor_u32 r b hlt hb
  clear hr hlt
  go_enter Try.func13, Try.ntmps13
  go_wp2_with fail
  refine S.out.mono ?_; rintro e w1 ⟨rfl, rfl⟩
  go_wp2_with fail
  go_ret2
  exact ⟨rfl, Below.refl _ _⟩
set_option maxRecDepth 100000 in
theorem join_neg (a b n : Int) (w : World) (hn : n < 0) :
    Calls Try.prog 13 #[.int .u32 a, .int .u32 b, .int .i64 n] w fun e w' => e = .returned (.tuple #[.int .u32 0, .int .i64 2]) ∧ Below w.heap.size w w' := by
  go_enter Try.func13, Try.ntmps13
  go_wp2
  go_ret2
  exact ⟨rfl, Below.refl _ _⟩
theorem crc : Crc where
  sum := fun A m c ps w h hy hl hm => sum_any A m c ps w h hy hl hm
  more := fun s n c A bs w hs h hy hn => more_any s n c A bs w hs h hy hn
  join := fun a b n w ha hb hn => join_any a b n w ha hb hn
  joinNeg := fun a b n w hn => join_neg a b n w hn
end Go.Proofs.Ytknmchpikcnacaa
