/- Walks of the statements FixnumWithin, FixnumBack, FixnumFloor and FixnumSigns: each returns true for every int64 argument and leaves the memory that was there as it was. -/
import Derived.Test.YtgjaknfphokjpaaKnown
namespace Go.Proofs.Ytgjaknfphokjpaa
open Go.RowKit

theorem sum2 (a b : Int) (ha : I64 a) (hb : I64 b) (W : World) (k : Nat) (hk : W.heap.size = k) :
    Calls Try.prog 20 #[.slice (some ⟨k, 0, none⟩) 2 2] (W.alloc (.cells #[.int .i64 a, .int .i64 b] 2)) fun e w' => e = .returned (.tuple #[.int .i64 (tN (a + b)), .int .i64 (tE (a + b))]) ∧ W.alloc (.cells #[.int .i64 a, .int .i64 b] 2) = w' := by
  subst hk
  have hs : sm [a, b] = a + b := by simp [sm]
  have hr : ∀ n, n ∈ [a, b] → I64 n := by intro n hn; simp at hn; rcases hn with rfl | rfl <;> assumption
  have hc : ∀ j, j < 2 → (W.alloc (.cells #[.int .i64 a, .int .i64 b] 2)).cell? ⟨W.heap.size, 0 + j, none⟩ = some (.int .i64 ([a, b].getD j 0)) := by
    intro j hj
    match j, hj with
    | 0, _ => exact cell_of_row _ _ _ _ _ _ (heap_alloc_new W _)
    | 1, _ => exact cell_of_row _ _ _ _ _ _ (heap_alloc_new W _)
  have HC := sum_any W.heap.size 0 2 2 [a, b] (W.alloc (.cells #[.int .i64 a, .int .i64 b] 2)) rfl (by omega) hr hc
  rw [hs] at HC
  exact HC

set_option maxHeartbeats 400000 in
theorem refwithin_any (a m : Int) (ha : I64 a) (hm : I64 m) (w : World) :
    Calls Try.prog 30 #[.int .i64 a, .int .i64 m] w fun e w' => e = .returned (.bool (within a m)) ∧ w = w' := by
  unfold I64 at ha hm
  obtain ⟨ha1, ha2⟩ := ha
  obtain ⟨hm1, hm2⟩ := hm
  by_cases h0 : m < 0
  · have H := Lib.hid (within_neg (a := a) (m := m) (by omega))
    go_enter Try.func30, Try.ntmps30
    go_wp2
    go_ret
    exact ⟨retB H.out.symm, rfl⟩
  · by_cases h2 : a ≤ m
    · by_cases h1 : -m ≤ a
      · have H := Lib.hid (within_pos ⟨by omega, h1, h2⟩)
        go_enter Try.func30, Try.ntmps30
        go_wp2
        go_ret
        exact ⟨retB H.out.symm, rfl⟩
      · have H := Lib.hid (within_neg (a := a) (m := m) (by omega))
        go_enter Try.func30, Try.ntmps30
        go_wp2
        go_ret
        exact ⟨retB H.out.symm, rfl⟩
    · have H := Lib.hid (within_neg (a := a) (m := m) (by omega))
      go_enter Try.func30, Try.ntmps30
      go_wp2
      go_ret
      exact ⟨retB H.out.symm, rfl⟩

set_option maxHeartbeats 400000 in
theorem walk_within (a b : Int) (ha : I64 a) (hb : I64 b) (w : World) :
    Calls Try.prog 7 #[.int .i64 a, .int .i64 b] w fun e w' => e = .returned (.bool true) ∧ Quiet w w' := by
  have HA := Lib.hid ha
  have HB := Lib.hid hb
  clear ha hb
  go_enter Try.func7, Try.ntmps7
  go_wp2_with fail
  refine (within_any a b HA.out HB.out _).mono ?_; rintro e w' ⟨rfl, rfl⟩
  go_wp2_with fail
  refine (refwithin_any a b HA.out HB.out _).mono ?_; rintro e w' ⟨rfl, rfl⟩
  go_wp2_with fail
  refine (known_any _).mono ?_; rintro e w' ⟨rfl, hq⟩
  go_wp2_with fail
  go_ret
  exact ⟨rfl, hq⟩

theorem fl_self (a b : Int) (h : b ≠ 0) : fl (a * b) b = a := by
  unfold fl
  split
  · rw [← Int.mul_neg]; exact Int.mul_ediv_cancel _ (by omega)
  · exact Int.mul_ediv_cancel _ h

/-- The second half of FixnumBack. -/
theorem back_div (a b : Int) (ha : I64 a) (hb : I64 b) (h : b ≠ 0) (w : World) :
    Calls Try.prog 24 #[.int .i64 a, .int .i64 b, .int .i64 b] w fun e w' => e = .returned (.tuple #[.int .i64 a, .int .i64 0]) ∧ ∃ n, w.drewN n = w' := by
  refine (muldiv_any a b b ha hb hb h w).mono ?_
  rintro e w' ⟨rfl, hq⟩
  rw [fl_self a b h]
  exact ⟨ret2 (tN_in ha) (tE_in ha), hq⟩
theorem back_sub (a b : Int) (ha : I64 a) (hb : I64 b) (hs : I64 (a + b)) (w : World) :
    Calls Try.prog 14 #[.int .i64 (a + b), .int .i64 b] w fun e w' => e = .returned (.tuple #[.int .i64 a, .int .i64 0]) ∧ w = w' := by
  refine (sub_any (a + b) b hs hb w).mono ?_
  rintro e w' ⟨rfl, hq⟩
  rw [show a + b - b = a by omega]
  exact ⟨ret2 (tN_in ha) (tE_in ha), hq⟩

theorem add_in (a b : Int) (ha : I64 a) (hb : I64 b) (hs : I64 (a + b)) (w : World) :
    Calls Try.prog 13 #[.int .i64 a, .int .i64 b] w fun e w' => e = .returned (.tuple #[.int .i64 (a + b), .int .i64 0]) ∧ w.alloc (.cells #[.int .i64 a, .int .i64 b] 2) = w' := by
  refine (add_any a b ha hb w).mono ?_
  rintro e w' ⟨rfl, hq⟩
  exact ⟨ret2 (tN_in hs) (tE_in hs), hq⟩
theorem add_out (a b : Int) (ha : I64 a) (hb : I64 b) (hs : ¬ I64 (a + b)) (w : World) :
    Calls Try.prog 13 #[.int .i64 a, .int .i64 b] w fun e w' => e = .returned (.tuple #[.int .i64 0, .int .i64 6]) ∧ w.alloc (.cells #[.int .i64 a, .int .i64 b] 2) = w' := by
  refine (add_any a b ha hb w).mono ?_
  rintro e w' ⟨rfl, hq⟩
  exact ⟨ret2 (tN_out hs) (tE_out hs), hq⟩
theorem sum2_in (a b : Int) (ha : I64 a) (hb : I64 b) (hs : I64 (a + b)) (W : World) (k : Nat) (hk : W.heap.size = k) :
    Calls Try.prog 20 #[.slice (some ⟨k, 0, none⟩) 2 2] (W.alloc (.cells #[.int .i64 b, .int .i64 a] 2)) fun e w' => e = .returned (.tuple #[.int .i64 (a + b), .int .i64 0]) ∧ W.alloc (.cells #[.int .i64 b, .int .i64 a] 2) = w' := by
  refine (sum2 b a hb ha W k hk).mono ?_
  rintro e w' ⟨rfl, hq⟩
  rw [Int.add_comm b a]
  exact ⟨ret2 (tN_in hs) (tE_in hs), hq⟩

set_option maxHeartbeats 1000000 in
theorem walk_back (a b : Int) (ha : I64 a) (hb : I64 b) (w : World) :
    Calls Try.prog 8 #[.int .i64 a, .int .i64 b] w fun e w' => e = .returned (.bool true) ∧ Quiet w w' := by
  have HA := Lib.hid ha
  have HB := Lib.hid hb
  clear ha hb
  by_cases hs : I64 (a + b)
  · have HS := Lib.hid hs
    clear hs
    cases h : (b != 0)
    all_goals
      go_enter Try.func8, Try.ntmps8
      go_wp2_with fail
      refine (add_in a b HA.out HB.out HS.out _).mono ?_; rintro e w' ⟨rfl, rfl⟩
      go_wp2_with fail
      refine (back_sub a b HA.out HB.out HS.out _).mono ?_; rintro e w' ⟨rfl, rfl⟩
      go_wp2_with fail
      refine (sum2_in a b HA.out HB.out HS.out _ _ (by simp)).mono ?_; rintro e w' ⟨rfl, rfl⟩
      go_wp2_with fail
      try (refine (back_div a b HA.out HB.out (by simpa using h) _).mono ?_; rintro e w' ⟨rfl, n, rfl⟩; go_wp2_with fail)
      refine (known_any _).mono ?_; rintro e w' ⟨rfl, hq⟩
      go_wp2_with fail
      go_ret
    · exact ⟨rfl, (((Quiet.refl w).alloc _ _).alloc _ _).trans hq⟩
    · exact ⟨rfl, ((((Quiet.refl w).alloc _ _).alloc _ _).drewN n).trans hq⟩
  · have HS := Lib.hid hs
    clear hs
    cases h : (b != 0)
    all_goals
      go_enter Try.func8, Try.ntmps8
      go_wp2_with fail
      refine (add_out a b HA.out HB.out HS.out _).mono ?_; rintro e w' ⟨rfl, rfl⟩
      go_wp2_with fail
      try (refine (back_div a b HA.out HB.out (by simpa using h) _).mono ?_; rintro e w' ⟨rfl, n, rfl⟩; go_wp2_with fail)
      refine (known_any _).mono ?_; rintro e w' ⟨rfl, hq⟩
      go_wp2_with fail
      go_ret
    · exact ⟨rfl, ((Quiet.refl w).alloc _ _).trans hq⟩
    · exact ⟨rfl, (((Quiet.refl w).alloc _ _).drewN n).trans hq⟩
end Go.Proofs.Ytgjaknfphokjpaa
