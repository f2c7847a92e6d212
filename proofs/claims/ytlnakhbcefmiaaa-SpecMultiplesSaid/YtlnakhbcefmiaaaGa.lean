/- Contracts of the program's own calls on a contract's data: numbers between bounds, multiples, differences; the greatest and the least shift; whether the shifts may be. -/
import Derived.Test.YtlnakhbcefmiaaaQm
import Derived.Test.YtlnakhbcefmiaaaQa
import Derived.Lib.MinMax
namespace Go.Proofs.Ytlnakhbcefmiaaa
open Go.RowKit

set_option maxRecDepth 100000 in
theorem pamong_any (n l m : Int) (w : World) : Calls Try.prog 21 #[.int .i64 n, .int .i64 l, .int .i64 m] w fun e w' => e = .returned (.bool (amB n l m)) ∧ w = w' := by
  unfold amB
  by_cases h1 : l ≤ n
  · by_cases h2 : n ≤ m
    · rw [decide_eq_true (show l ≤ n ∧ n ≤ m from ⟨h1, h2⟩)]
      have d1 : decide (l ≤ n) = true := decide_eq_true h1
      have d2 : decide (n ≤ m) = true := decide_eq_true h2
      go_enter Try.func21, Try.ntmps21
      go_wp2
      go_ret
      exact ⟨rfl, rfl⟩
    · rw [decide_eq_false (show ¬ (l ≤ n ∧ n ≤ m) from fun h => h2 h.2)]
      have d1 : decide (l ≤ n) = true := decide_eq_true h1
      have d2 : decide (n ≤ m) = false := decide_eq_false h2
      go_enter Try.func21, Try.ntmps21
      go_wp2
      go_ret
      exact ⟨rfl, rfl⟩
  · rw [decide_eq_false (show ¬ (l ≤ n ∧ n ≤ m) from fun h => h1 h.1)]
    have d1 : decide (l ≤ n) = false := decide_eq_false h1
    go_enter Try.func21, Try.ntmps21
    go_wp2
    go_ret
    exact ⟨rfl, rfl⟩
/-- A multiple of a step, up to a bound. -/
def stB (n t m : Int) : Bool := decide ((1 ≤ n ∧ n ≤ m) ∧ n % t = 0)
theorem stB_no {n t m : Int} (h : amB n 1 m = false) : stB n t m = false := by
  refine decide_eq_false fun c => ?_
  rw [amB_iff.2 c.1] at h
  cases h
set_option maxRecDepth 100000 in
theorem psteps_any (n t m : Int) (w : World) (ht : 1 ≤ t ∧ t ≤ 10000000) : Calls Try.prog 23 #[.int .i64 n, .int .i64 t, .int .i64 m] w fun e w' => e = .returned (.bool (stB n t m)) ∧ w = w' := by
  have AM := Lib.hid (fun W => pamong_any n 1 m W)
  obtain ⟨t1, t2⟩ := ht
  cases ha : amB n 1 m
  · rw [stB_no ha]
    rw [ha] at AM
    clear ha
    go_enter Try.func23, Try.ntmps23
    go_wp2_with fail
    refine (AM.out _).mono ?_; rintro e w' ⟨rfl, rfl⟩
    go_wp2_with fail
    go_ret
    exact ⟨rfl, rfl⟩
  · obtain ⟨n1, n2⟩ := amB_iff.1 ha
    have H : Hid (stB n t m = (n % t == 0)) := Lib.hid (by
      unfold stB
      by_cases c : n % t = 0
      · rw [decide_eq_true ⟨⟨n1, n2⟩, c⟩, beq_iff_eq.2 c]
      · rw [decide_eq_false (fun h => c h.2)]
        exact (beq_eq_false_iff_ne.2 c).symm)
    rw [H.out]
    rw [ha] at AM
    clear ha H
    go_enter Try.func23, Try.ntmps23
    go_wp2_with fail
    refine (AM.out _).mono ?_; rintro e w' ⟨rfl, rfl⟩
    go_wp2_with fail
    go_ret
    exact ⟨rfl, rfl⟩

/-- What Within answers; what Sub tells. -/
def withinB (a m : Int) : Bool := decide (0 ≤ m ∧ -m ≤ a ∧ a ≤ m)
theorem within_pos {a m : Int} (h : 0 ≤ m ∧ -m ≤ a ∧ a ≤ m) : withinB a m = true := decide_eq_true h
theorem within_neg {a m : Int} (h : ¬ (0 ≤ m ∧ -m ≤ a ∧ a ≤ m)) : withinB a m = false := decide_eq_false h
theorem ansB {x x' : Bool} (h : x = x') : Ending.returned (.bool x) = Ending.returned (.bool x') := by rw [h]
set_option maxHeartbeats 400000 in
theorem pwithin_any (a m : Int) (ha : I64 a) (hm : I64 m) (w : World) :
    Calls Try.prog 27 #[.int .i64 a, .int .i64 m] w fun e w' => e = .returned (.bool (withinB a m)) ∧ w = w' := by
  unfold I64 at ha hm
  obtain ⟨ha1, ha2⟩ := ha
  obtain ⟨hm1, hm2⟩ := hm
  by_cases h0 : 0 ≤ m
  · by_cases h1 : -m ≤ a
    · by_cases h2 : a ≤ m
      · have H := Lib.hid (within_pos ⟨h0, h1, h2⟩)
        go_enter Try.func27, Try.ntmps27
        go_wp2
        go_ret
        exact ⟨ansB H.out.symm, rfl⟩
      · have H := Lib.hid (within_neg (a := a) (m := m) (by omega))
        go_enter Try.func27, Try.ntmps27
        go_wp2
        go_ret
        exact ⟨ansB H.out.symm, rfl⟩
    · have H := Lib.hid (within_neg (a := a) (m := m) (by omega))
      go_enter Try.func27, Try.ntmps27
      go_wp2
      go_ret
      exact ⟨ansB H.out.symm, rfl⟩
  · have H := Lib.hid (within_neg (a := a) (m := m) (by omega))
    go_enter Try.func27, Try.ntmps27
    go_wp2
    go_ret
    exact ⟨ansB H.out.symm, rfl⟩
/-- The number that a call tells: it, or 0 where it does not fit; the error. -/
def ftN (x : Int) : Int := if -9223372036854775808 ≤ x ∧ x ≤ 9223372036854775807 then x else 0
def ftE (x : Int) : Int := if -9223372036854775808 ≤ x ∧ x ≤ 9223372036854775807 then 0 else 6
theorem ans2 {x y x' y' : Int} (h : x = x') (k : y = y') : Ending.returned (.tuple #[.int .i64 x, .int .i64 y]) = Ending.returned (.tuple #[.int .i64 x', .int .i64 y']) := by rw [h, k]
theorem psub_bad (a b : Int) (ha : I64 a) (hb : I64 b) (h : (!decide (wrap64 (a - b) < a) == decide (0 < b)) = true) : 0 = ftN (a - b) ∧ 6 = ftE (a - b) := by
  unfold I64 at ha hb; unfold ftN ftE; unfold wrap64 at h
  by_cases h1 : (a - b + 9223372036854775808) % 18446744073709551616 - 9223372036854775808 < a <;> by_cases h2 : 0 < b <;> simp [h1, h2] at h
  all_goals (rw [if_neg (by omega), if_neg (by omega)]; exact ⟨rfl, rfl⟩)
theorem psub_good (a b : Int) (ha : I64 a) (hb : I64 b) (h : (!decide (wrap64 (a - b) < a) == decide (0 < b)) = false) : wrap64 (a - b) = ftN (a - b) ∧ 0 = ftE (a - b) := by
  unfold I64 at ha hb; unfold ftN ftE; unfold wrap64 at h ⊢
  by_cases h1 : (a - b + 9223372036854775808) % 18446744073709551616 - 9223372036854775808 < a <;> by_cases h2 : 0 < b <;> simp [h1, h2] at h
  all_goals (rw [if_pos (by omega), if_pos (by omega)]; exact ⟨by omega, rfl⟩)
set_option maxHeartbeats 400000 in
theorem psub_any (a b : Int) (ha : I64 a) (hb : I64 b) (w : World) :
    Calls Try.prog 26 #[.int .i64 a, .int .i64 b] w fun e w' => e = .returned (.tuple #[.int .i64 (ftN (a - b)), .int .i64 (ftE (a - b))]) ∧ w = w' := by
  go_enter Try.func26, Try.ntmps26
  go_wp2
  · have h : (!decide (wrap64 (a - b) < a) == decide (0 < b)) = true := by assumption
    go_ret2
    exact ⟨ans2 (psub_bad a b ha hb h).1 (psub_bad a b ha hb h).2, rfl⟩
  · have h : (!decide (wrap64 (a - b) < a) == decide (0 < b)) = false := by assumption
    go_ret2
    exact ⟨ans2 (psub_good a b ha hb h).1 (psub_good a b ha hb h).2, rfl⟩

theorem up_max (x y : Int) : decide (0 < max x y) = (decide (0 < x) || decide (0 < y)) := by
  rw [Int.max_def]
  split <;> by_cases hx : 0 < x <;> by_cases hy : 0 < y <;> simp [hx, hy] <;> omega
theorem down_min (x y : Int) : decide (min x y < 0) = (decide (x < 0) || decide (y < 0)) := by
  rw [Int.min_def]
  split <;> by_cases hx : x < 0 <;> by_cases hy : y < 0 <;> simp [hx, hy] <;> omega
set_option maxRecDepth 100000 in
theorem pmax_any (g : Nat) (l : List Int) (w : World) (hl : l.length = 16) (hc : ∀ j, j < 16 → w.cell? ⟨g, j, none⟩ = some (.int .i64 (l.getD j 0))) :
    Calls Try.prog 37 #[.slice (some ⟨g, 0, none⟩) 16 16] w fun e w' => (∃ m, e = .returned (.int .i64 m) ∧ decide (0 < m) = someUp l) ∧ w = w' := by
  have c0 := hc 0 (by decide)
  have HC := Lib.hid hc
  have HL := Lib.hid hl
  clear hc hl
  go_enter Try.func37, Try.ntmps37
  go_wp2_with fail
  go_loop [3, 4] (fun m i => ∃ (k : Nat) (x : Int), 1 ≤ k ∧ k ≤ 16 ∧ i = .int .i64 k ∧ m = .int .i64 x ∧ decide (0 < x) = someUp (l.take k)) (fun _ i => 16 - (intOf i).toNat)
  case atStart =>
    refine ⟨1, _, Nat.le_refl _, by decide, rfl, rfl, ?_⟩
    rw [take_more (by rw [HL.out]; decide), up_snoc]
    rfl
  case round =>
    obtain ⟨k, x, hk1, hk, rfl, rfl, hx⟩ := hrel
    have HX := Lib.hid hx
    clear hx
    by_cases hlt : k < 16
    case pos =>
      have ck := HC.out k hlt
      have hd : decide ((k : Int) < 16) = true := decide_eq_true (by omega)
      clear c0
      go_wp2_with fail
      go_round
      case rel =>
        refine ⟨k + 1, _, by omega, hlt, by go_num, rfl, ?_⟩
        rw [up_max, HX.out, take_more (by rw [HL.out]; exact hlt), up_snoc]
        rfl
      case measure => simp [intOf]; omega
    case neg =>
      obtain rfl : k = 16 := by omega
      clear c0
      go_wp2_with fail
      go_ret
      refine ⟨⟨x, rfl, ?_⟩, rfl⟩
      rw [HX.out, List.take_of_length_le (by rw [HL.out]; exact Nat.le_refl _)]
set_option maxRecDepth 100000 in
theorem pmin_any (g : Nat) (l : List Int) (w : World) (hl : l.length = 16) (hc : ∀ j, j < 16 → w.cell? ⟨g, j, none⟩ = some (.int .i64 (l.getD j 0))) :
    Calls Try.prog 38 #[.slice (some ⟨g, 0, none⟩) 16 16] w fun e w' => (∃ m, e = .returned (.int .i64 m) ∧ decide (m < 0) = someDown l) ∧ w = w' := by
  have c0 := hc 0 (by decide)
  have HC := Lib.hid hc
  have HL := Lib.hid hl
  clear hc hl
  go_enter Try.func38, Try.ntmps38
  go_wp2_with fail
  go_loop [3, 4] (fun m i => ∃ (k : Nat) (x : Int), 1 ≤ k ∧ k ≤ 16 ∧ i = .int .i64 k ∧ m = .int .i64 x ∧ decide (x < 0) = someDown (l.take k)) (fun _ i => 16 - (intOf i).toNat)
  case atStart =>
    refine ⟨1, _, Nat.le_refl _, by decide, rfl, rfl, ?_⟩
    rw [take_more (by rw [HL.out]; decide), down_snoc]
    rfl
  case round =>
    obtain ⟨k, x, hk1, hk, rfl, rfl, hx⟩ := hrel
    have HX := Lib.hid hx
    clear hx
    by_cases hlt : k < 16
    case pos =>
      have ck := HC.out k hlt
      have hd : decide ((k : Int) < 16) = true := decide_eq_true (by omega)
      clear c0
      go_wp2_with fail
      go_round
      case rel =>
        refine ⟨k + 1, _, by omega, hlt, by go_num, rfl, ?_⟩
        rw [down_min, HX.out, take_more (by rw [HL.out]; exact hlt), down_snoc]
        rfl
      case measure => simp [intOf]; omega
    case neg =>
      obtain rfl : k = 16 := by omega
      clear c0
      go_wp2_with fail
      go_ret
      refine ⟨⟨x, rfl, ?_⟩, rfl⟩
      rw [HX.out, List.take_of_length_le (by rw [HL.out]; exact Nat.le_refl _)]
end Go.Proofs.Ytlnakhbcefmiaaa
