/- Contracts of the document's plain answers on a contract's data: among, Price, May. -/
import Derived.Test.YtbmlpokkojhhjaaGreatG01
namespace Go.Proofs.YtbmlpokkojhhjaaGreat
open Go.RowKit

set_option maxRecDepth 100000 in
theorem ramong_any (n l m : Int) (w : World) : Calls Tryz.prog 108 #[.int .i64 n, .int .i64 l, .int .i64 m] w fun e w' => e = .returned (.bool (amB n l m)) ∧ w = w' := by
  unfold amB
  by_cases h1 : l ≤ n
  · by_cases h2 : n ≤ m
    · rw [decide_eq_true (show l ≤ n ∧ n ≤ m from ⟨h1, h2⟩)]
      have d1 : decide (l ≤ n) = true := decide_eq_true h1
      have d2 : decide (n ≤ m) = true := decide_eq_true h2
      go_enter Tryz.func108, Tryz.ntmps108
      go_wp2
      go_ret
      exact ⟨rfl, rfl⟩
    · rw [decide_eq_false (show ¬ (l ≤ n ∧ n ≤ m) from fun h => h2 h.2)]
      have d1 : decide (l ≤ n) = true := decide_eq_true h1
      have d2 : decide (n ≤ m) = false := decide_eq_false h2
      go_enter Tryz.func108, Tryz.ntmps108
      go_wp2
      go_ret
      exact ⟨rfl, rfl⟩
  · rw [decide_eq_false (show ¬ (l ≤ n ∧ n ≤ m) from fun h => h1 h.1)]
    have d1 : decide (l ≤ n) = false := decide_eq_false h1
    go_enter Tryz.func108, Tryz.ntmps108
    go_wp2
    go_ret
    exact ⟨rfl, rfl⟩
set_option maxRecDepth 100000 in
theorem rprice_any (t n : Int) (w : World) (ht : 1 ≤ t ∧ t ≤ 10000000) : Calls Tryz.prog 109 #[.int .i64 t, .int .i64 n] w fun e w' => e = .returned (.bool (prB t n)) ∧ w = w' := by
  unfold prB
  obtain ⟨t1, t2⟩ := ht
  by_cases h1 : 1 ≤ n
  · by_cases h2 : n ≤ 10000000
    · have d1 : decide (1 ≤ n) = true := decide_eq_true h1
      have d2 : decide (n ≤ 10000000) = true := decide_eq_true h2
      have e0 : n / t * t + n % t = n := Int.ediv_mul_add_emod n t
      have hb : 0 ≤ n / t := Int.ediv_nonneg (by omega) (by omega)
      have hm0 := Int.emod_nonneg n (show t ≠ 0 by omega)
      have hlo : 0 ≤ n / t * t := Int.mul_nonneg hb (by omega)
      have hm := Int.mul_comm (n / t) t
      have hq : n / t ≤ n := Int.ediv_le_self t (by omega)
      have H : Hid (decide ((1 ≤ n ∧ n ≤ 10000000) ∧ n % t = 0) = (n / t * t == n)) := Lib.hid (by
        by_cases c : n % t = 0
        · rw [decide_eq_true ⟨⟨h1, h2⟩, c⟩, beq_iff_eq.2 (by omega)]
        · rw [decide_eq_false (fun h => c h.2)]
          exact (beq_eq_false_iff_ne.2 (by omega)).symm)
      rw [H.out]
      have hz1 : -9223372036854775808 ≤ n / t * t := by omega
      have hz2 : n / t * t ≤ 9223372036854775807 := by omega
      clear e0 hm H hm0
      go_enter Tryz.func109, Tryz.ntmps109
      go_wp2_with fail
      go_ret
      exact ⟨rfl, rfl⟩
    · rw [decide_eq_false (fun h => h2 h.1.2)]
      have d1 : decide (1 ≤ n) = true := decide_eq_true h1
      have d2 : decide (n ≤ 10000000) = false := decide_eq_false h2
      go_enter Tryz.func109, Tryz.ntmps109
      go_wp2_with fail
      go_ret
      exact ⟨rfl, rfl⟩
  · rw [decide_eq_false (fun h => h1 h.1.1)]
    have d1 : decide (1 ≤ n) = false := decide_eq_false h1
    go_enter Tryz.func109, Tryz.ntmps109
    go_wp2_with fail
    go_ret
    exact ⟨rfl, rfl⟩

/-- The first condition that fails. -/
theorem head_fails {s : Sp} (h : headB s = false) : s.nu = 0 ∨
    (s.nu ≠ 0 ∧ s.ro < 1) ∨ (s.nu ≠ 0 ∧ 1 ≤ s.ro ∧ 8 < s.ro) ∨
    (s.nu ≠ 0 ∧ 1 ≤ s.ro ∧ s.ro ≤ 8 ∧ amB s.ti 1 10000000 = false) ∨
    (s.nu ≠ 0 ∧ 1 ≤ s.ro ∧ s.ro ≤ 8 ∧ amB s.ti 1 10000000 = true ∧ amB s.lo 1 1000000 = false) ∨
    (s.nu ≠ 0 ∧ 1 ≤ s.ro ∧ s.ro ≤ 8 ∧ amB s.ti 1 10000000 = true ∧ amB s.lo 1 1000000 = true ∧ amB s.ba 0 10000000 = false) ∨
    (s.nu ≠ 0 ∧ 1 ≤ s.ro ∧ s.ro ≤ 8 ∧ amB s.ti 1 10000000 = true ∧ amB s.lo 1 1000000 = true ∧ amB s.ba 0 10000000 = true ∧ amB s.li 1 10000000 = false) ∨
    (s.nu ≠ 0 ∧ 1 ≤ s.ro ∧ s.ro ≤ 8 ∧ amB s.ti 1 10000000 = true ∧ amB s.lo 1 1000000 = true ∧ amB s.ba 0 10000000 = true ∧ amB s.li 1 10000000 = true ∧ amB s.cr 0 10000000 = false) := by
  by_cases a : s.nu = 0
  · exact .inl a
  refine .inr ?_
  refine Classical.byCases (p := 1 ≤ s.ro) (fun b => .inr ?_) (fun b => .inl ⟨a, by omega⟩)
  refine Classical.byCases (p := s.ro ≤ 8) (fun c => .inr ?_) (fun c => .inl ⟨a, b, by omega⟩)
  have hr : amB s.ro 1 8 = true := amB_iff.2 ⟨b, c⟩
  unfold headB at h
  rw [decide_eq_true a, hr] at h
  cases c1 : amB s.ti 1 10000000
  · exact .inl ⟨a, b, c, rfl⟩
  refine .inr ?_
  cases c2 : amB s.lo 1 1000000
  · exact .inl ⟨a, b, c, rfl, rfl⟩
  refine .inr ?_
  cases c3 : amB s.ba 0 10000000
  · exact .inl ⟨a, b, c, rfl, rfl, rfl⟩
  refine .inr ?_
  cases c4 : amB s.li 1 10000000
  · exact .inl ⟨a, b, c, rfl, rfl, rfl, rfl⟩
  refine .inr ?_
  cases c5 : amB s.cr 0 10000000
  · exact ⟨a, b, c, rfl, rfl, rfl, rfl, rfl⟩
  · rw [c1, c2, c3, c4, c5] at h
    cases h

set_option maxRecDepth 100000 in
set_option maxHeartbeats 4000000 in
theorem rmay_head (s : Sp) (w : World) (ok : s.ok) (hh : headB s = false) : Calls Tryz.prog 71 #[.agg s.cells] w fun e w' => e = .returned (.bool false) ∧ Below w.heap.size w w' := by
  have AM := Lib.hid (fun n l m W => ramong_any n l m W)
  have C0 := s.c0
  have C1 := s.c1
  have C2 := s.c2
  have C3 := s.c3
  have C4 := s.c4
  have C5 := s.c5
  have C22 := Sp.c22 ok.len
  have o1 := ok.nu
  have o2 := ok.ro
  have hf := head_fails hh
  have B := Lib.hid ((Below.refl w.heap.size w).alloc (Nat.le_refl _) (.cells s.cells 29))
  clear hh ok
  obtain ⟨o1a, o1b⟩ := o1
  obtain ⟨o2a, o2b⟩ := o2
  obtain ⟨nu, hnu⟩ : ∃ nu, s.nu = nu := ⟨_, rfl⟩
  obtain ⟨ro, hro⟩ : ∃ ro, s.ro = ro := ⟨_, rfl⟩
  rw [hnu] at C0 hf o1a o1b
  rw [hro] at C1 hf o2a o2b
  clear hnu hro
  rcases hf with rfl | ⟨a, b⟩ | ⟨a, b, c⟩ | ⟨a, b, c, d1⟩ | ⟨a, b, c, d1, d2⟩ | ⟨a, b, c, d1, d2, d3⟩ | ⟨a, b, c, d1, d2, d3, d4⟩ | ⟨a, b, c, d1, d2, d3, d4, d5⟩
  all_goals
    try have a0 : (nu == 0) = false := beq_eq_false_iff_ne.2 a
    go_enter Tryz.func71, Tryz.ntmps71
    go_wp2_with (go_at_call 108; refine (AM.out _ _ _ _).mono ?_; rintro e w' ⟨rfl, rfl⟩)
    go_ret
    exact ⟨rfl, B.out⟩
end Go.Proofs.YtbmlpokkojhhjaaGreat
