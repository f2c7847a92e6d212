/- The program's IsQty and InBand of a contract's data: for later seats. -/
import Derived.Test.YtmelpikncdnloaaVs
import Derived.Test.YtmelpikncdnloaaQc
import Derived.Test.YtmelpikncdnloaaQi
import Derived.Test.YtmelpikncdnloaaQm
import Derived.Test.YtmelpikncdnloaaQp
import Derived.Lib.MinMax
namespace Go.Proofs.Ytmelpikncdnloaa
open Go.RowKit

/-- The number that a call tells: it, or 0 where it does not fit; the error. -/
def ftN (x : Int) : Int := if -9223372036854775808 ≤ x ∧ x ≤ 9223372036854775807 then x else 0
def ftE (x : Int) : Int := if -9223372036854775808 ≤ x ∧ x ≤ 9223372036854775807 then 0 else 6
theorem ans2 {x y x' y' : Int} (h : x = x') (k : y = y') : Ending.returned (.tuple #[.int .i64 x, .int .i64 y]) = Ending.returned (.tuple #[.int .i64 x', .int .i64 y']) := by rw [h, k]
theorem psub_bad (a b : Int) (ha : I64 a) (hb : I64 b) (h : (!decide (wrap64 (a - b) < a) == decide (0 < b)) = true) : 0 = ftN (a - b) ∧ 6 = ftE (a - b) := by
  unfold I64 at ha hb; unfold ftN ftE; unfold wrap64 at h
  by_cases h1 : (a - b + 9223372036854775808) % 18446744073709551616 - 9223372036854775808 < a <;> by_cases h2 : 0 < b <;> simp [h1, h2] at h
  all_goals (rw [if_neg (by omega), if_neg (by omega)]; exact ⟨rfl, rfl⟩)
theorem psub_good (a b : Int) (ha : I64 a) (hb : I64 b) (h : (!decide (wrap64 (a - b) < a) == decide (0 < b)) = false) : wrap64 (a - b) = ftN (a - b) ∧ 0 = ftE (a - b) := by
  unfold I64 at ha hb; unfold ftN ftE; unfold wrap64 at h ⊢
  by_cases h1 : (a - b + 9223372036854775808) % 18446744073709551616 - 9223372036854775808 < a <;> by_cases h2 : 0 < b <;> simp [h1, h2] at h
  all_goals (rw [if_pos (by omega), if_pos (by omega)]; exact ⟨by omega, rfl⟩)
set_option maxHeartbeats 400000 in
theorem psub_any (a b : Int) (ha : I64 a) (hb : I64 b) (w : World) :
    Calls Try.prog 23 #[.int .i64 a, .int .i64 b] w fun e w' => e = .returned (.tuple #[.int .i64 (ftN (a - b)), .int .i64 (ftE (a - b))]) ∧ w = w' := by
  go_enter Try.func23, Try.ntmps23
  go_wp2
  · have h : (!decide (wrap64 (a - b) < a) == decide (0 < b)) = true := by assumption
    go_ret2
    exact ⟨ans2 (psub_bad a b ha hb h).1 (psub_bad a b ha hb h).2, rfl⟩
  · have h : (!decide (wrap64 (a - b) < a) == decide (0 < b)) = false := by assumption
    go_ret2
    exact ⟨ans2 (psub_good a b ha hb h).1 (psub_good a b ha hb h).2, rfl⟩

theorem not_band {s : Sp} (h : mayB s = false) (a b : Int) : bandB s a b = false := by unfold bandB; rw [h]; rfl
theorem may_band {s : Sp} (h : mayB s = true) (a b : Int) : bandB s a b = decide (a - b ≤ s.ba ∧ b - a ≤ s.ba) := by unfold bandB; rw [h]; rfl
set_option maxRecDepth 100000 in
theorem pisqty_any (s : Sp) (n : Int) (w : World) (ok : s.ok) : Calls Try.prog 11 #[.agg s.cells, .int .i64 n] w fun e w' => e = .returned (.bool (qtyB s n)) ∧ Below w.heap.size w w' := by
  have MY := Lib.hid (fun W => pmay_any s W ok)
  have HB := Lib.hid (box_new w ok.len)
  have B := Lib.hid ((Below.refl w.heap.size w).alloc (Nat.le_refl _) (.cells s.cells 25))
  cases hm : mayB s
  · have E : Hid (qtyB s n = false) := Lib.hid (by unfold qtyB; rw [hm]; rfl)
    rw [hm] at MY
    clear hm ok
    go_enter Try.func11, Try.ntmps11
    go_wp2_with ((with_reducible refine wl_load_sp w.heap.size HB.out ?_ ?_ ?_); rfl; rfl)
    refine (MY.out _).mono ?_; rintro e w1 ⟨rfl, q⟩
    have B1 := Lib.hid (B.out.trans (q.mono B.out.size))
    clear q
    go_wp2_with fail
    go_ret
    refine ⟨?_, B1.out⟩
    rw [E.out]
    rfl
  · have E : Hid (qtyB s n = stB n s.lo 1000000) := Lib.hid (by unfold qtyB; rw [hm]; rfl)
    have TI := Lib.hid (head_parts (may_head hm)).2.2.2.1
    have PR := Lib.hid (fun W => psteps_any n s.lo 1000000 W ⟨TI.out.1, by have := TI.out.2; omega⟩)
    have C3 := Lib.hid s.c3
    rw [hm] at MY
    clear hm ok
    go_enter Try.func11, Try.ntmps11
    go_wp2_with ((with_reducible refine wl_load_sp w.heap.size HB.out ?_ ?_ ?_); rfl; rfl)
    refine (MY.out _).mono ?_; rintro e w1 ⟨rfl, q⟩
    have B1 := Lib.hid (B.out.trans (q.mono B.out.size))
    have hc := (HB.out.below q).cell 3
    rw [C3.out] at hc
    clear q
    go_wp2_with fail
    refine (PR.out _).mono ?_; rintro e w2 ⟨rfl, rfl⟩
    go_wp2_with fail
    go_ret
    refine ⟨?_, B1.out⟩
    rw [E.out]
    rfl
set_option maxRecDepth 100000 in
theorem pband_any (s : Sp) (a b : Int) (w : World) (ok : s.ok) (ha : I64 a) (hb : I64 b) : Calls Try.prog 13 #[.agg s.cells, .int .i64 a, .int .i64 b] w fun e w' => e = .returned (.bool (bandB s a b)) ∧ Below w.heap.size w w' := by
  have MY := Lib.hid (fun W => pmay_any s W ok)
  have SU := Lib.hid (fun W => psub_any b a hb ha W)
  have HB := Lib.hid (box_new w ok.len)
  have B := Lib.hid ((Below.refl w.heap.size w).alloc (Nat.le_refl _) (.cells s.cells 25))
  cases hm : mayB s
  · have E := Lib.hid (not_band hm a b)
    rw [hm] at MY
    clear hm ok ha hb
    obtain ⟨dn, hdn⟩ : ∃ x, ftN (b - a) = x := ⟨_, rfl⟩
    obtain ⟨de, hde⟩ : ∃ x, ftE (b - a) = x := ⟨_, rfl⟩
    rw [hdn, hde] at SU
    clear hdn hde
    go_enter Try.func13, Try.ntmps13
    go_wp2_with fail
    refine (SU.out _).mono ?_; rintro e w1 ⟨rfl, rfl⟩
    go_wp2_with ((with_reducible refine wl_load_sp w.heap.size HB.out ?_ ?_ ?_); rfl; rfl)
    refine (MY.out _).mono ?_; rintro e w1 ⟨rfl, q⟩
    have B1 := Lib.hid (B.out.trans (q.mono B.out.size))
    clear q
    go_wp2_with fail
    go_ret
    refine ⟨?_, B1.out⟩
    rw [E.out]
    rfl
  · have hba := (head_parts (may_head hm)).2.2.2.2.1
    have E := Lib.hid (may_band hm a b)
    rw [hm] at MY
    have C4 := Lib.hid s.c4
    by_cases hf : I64 (b - a)
    · have e1 : ftN (b - a) = b - a := if_pos hf
      have e2 : ftE (b - a) = 0 := if_pos hf
      have WI := Lib.hid (fun W => pwithin_any (b - a) s.ba hf ok.ba W)
      have HW : Hid (withinB (b - a) s.ba = decide (a - b ≤ s.ba ∧ b - a ≤ s.ba)) := Lib.hid (decide_eq_decide.2 ⟨fun h => by omega, fun h => by omega⟩)
      rw [e1, e2] at SU
      clear hm ok ha hb e1 e2 hf hba
      obtain ⟨d, hd⟩ : ∃ x, b - a = x := ⟨_, rfl⟩
      rw [hd] at SU WI HW E
      clear hd
      go_enter Try.func13, Try.ntmps13
      go_wp2_with fail
      refine (SU.out _).mono ?_; rintro e w1 ⟨rfl, rfl⟩
      go_wp2_with ((with_reducible refine wl_load_sp w.heap.size HB.out ?_ ?_ ?_); rfl; rfl)
      refine (MY.out _).mono ?_; rintro e w1 ⟨rfl, q⟩
      have B1 := Lib.hid (B.out.trans (q.mono B.out.size))
      have hc := (HB.out.below q).cell 4
      rw [C4.out] at hc
      clear q
      go_wp2_with fail
      refine (WI.out _).mono ?_; rintro e w2 ⟨rfl, rfl⟩
      go_wp2_with fail
      go_ret
      refine ⟨?_, B1.out⟩
      rw [E.out, ← HW.out]
      rfl
    · have e1 : ftN (b - a) = 0 := if_neg hf
      have e2 : ftE (b - a) = 6 := if_neg hf
      have E2 : Hid (bandB s a b = false) := Lib.hid (by
        rw [E.out]
        refine decide_eq_false fun c => hf ?_
        unfold I64
        omega)
      rw [e1, e2] at SU
      clear hm ok ha hb e1 e2 hf hba E
      go_enter Try.func13, Try.ntmps13
      go_wp2_with fail
      refine (SU.out _).mono ?_; rintro e w1 ⟨rfl, rfl⟩
      go_wp2_with ((with_reducible refine wl_load_sp w.heap.size HB.out ?_ ?_ ?_); rfl; rfl)
      refine (MY.out _).mono ?_; rintro e w1 ⟨rfl, q⟩
      have B1 := Lib.hid (B.out.trans (q.mono B.out.size))
      clear q
      go_wp2_with fail
      go_ret
      refine ⟨?_, B1.out⟩
      rw [E2.out]
      rfl
end Go.Proofs.Ytmelpikncdnloaa
