/- Walks of the statements FixnumFloor and FixnumSigns: each returns true for every three int64 arguments and leaves the memory that was there as it was. -/
import Derived.Test.YtgjaknfphokjpaaKnown
namespace Go.Proofs.Ytgjaknfphokjpaa
open Go.RowKit

theorem within_iff {a m : Int} (h : within a m = true) : 0 ≤ m ∧ -m ≤ a ∧ a ≤ m := of_decide_eq_true h
theorem fl_up {x c : Int} (h : 0 < c) : 0 ≤ x - fl x c * c ∧ x - fl x c * c < c := by
  unfold fl
  rw [if_neg (by omega)]
  have e := Int.mul_ediv_add_emod x c
  have m0 := Int.emod_nonneg x (show c ≠ 0 by omega)
  have m1 := Int.emod_lt_of_pos x h
  rw [Int.mul_comm] at e
  omega
theorem fl_down {x c : Int} (h : c < 0) : x - fl x c * c ≤ 0 ∧ c < x - fl x c * c := by
  unfold fl
  rw [if_pos h]
  have e := Int.mul_ediv_add_emod (-x) (-c)
  have m0 := Int.emod_nonneg (-x) (show -c ≠ 0 by omega)
  have m1 := Int.emod_lt_of_pos (-x) (show 0 < -c by omega)
  rw [Int.mul_comm, Int.mul_neg] at e
  omega
theorem ml_bd {a b : Int} (ha : -2147483648 ≤ a ∧ a ≤ 2147483648) (hb : -2147483648 ≤ b ∧ b ≤ 2147483648) : -4611686018427387904 ≤ a * b ∧ a * b ≤ 4611686018427387904 := by
  have e := sgn_mul a b
  have h1 : 0 ≤ mag a ∧ mag a ≤ 2147483648 := by unfold mag; split <;> omega
  have h2 : 0 ≤ mag b ∧ mag b ≤ 2147483648 := by unfold mag; split <;> omega
  have h3 := Int.mul_nonneg h1.1 h2.1
  have h4 := Int.mul_le_mul h1.2 h2.2 h2.1 (by decide)
  rw [← e]
  unfold sgn
  split <;> omega
theorem fl_bd {x c : Int} (h : c ≠ 0) (hx : -4611686018427387904 ≤ x ∧ x ≤ 4611686018427387904) : -4611686018427387904 ≤ fl x c ∧ fl x c ≤ 4611686018427387904 := by
  unfold fl
  split
  · exact ⟨Int.le_ediv_of_mul_le (by omega) (by omega), Int.ediv_le_of_le_mul (by omega) (by omega)⟩
  · exact ⟨Int.le_ediv_of_mul_le (by omega) (by omega), Int.ediv_le_of_le_mul (by omega) (by omega)⟩

/-- A quotient of numbers that are not great is told. -/
theorem md_in (a b c q : Int) (ha : -2147483648 ≤ a ∧ a ≤ 2147483648) (hb : -2147483648 ≤ b ∧ b ≤ 2147483648) (hc : -2147483648 ≤ c ∧ c ≤ 2147483648) (h0 : c ≠ 0) (hq : fl (a * b) c = q) (w : World) :
    Calls Try.prog 24 #[.int .i64 a, .int .i64 b, .int .i64 c] w fun e w' => e = .returned (.tuple #[.int .i64 q, .int .i64 0]) ∧ ∃ n, w.drewN n = w' := by
  refine (muldiv_any a b c (by unfold I64; omega) (by unfold I64; omega) (by unfold I64; omega) h0 w).mono ?_
  rintro e w' ⟨rfl, hw⟩
  rw [hq]
  have hI : I64 q := by
    have := fl_bd h0 (ml_bd ha hb)
    unfold I64; omega
  exact ⟨ret2 (tN_in hI) (tE_in hI), hw⟩
theorem ml_in (a b p : Int) (ha : -2147483648 ≤ a ∧ a ≤ 2147483648) (hb : -2147483648 ≤ b ∧ b ≤ 2147483648) (hp : a * b = p) (w : World) :
    Calls Try.prog 23 #[.int .i64 a, .int .i64 b] w fun e w' => e = .returned (.tuple #[.int .i64 p, .int .i64 0]) ∧ w = w' := by
  refine (mul_any a b (by unfold I64; omega) (by unfold I64; omega) w).mono ?_
  rintro e w' ⟨rfl, hw⟩
  rw [hp]
  have hI : I64 p := by
    have := ml_bd ha hb
    unfold I64; omega
  exact ⟨ret2 (tN_in hI) (tE_in hI), hw⟩
theorem wi (a : Int) (ha : I64 a) (w : World) : Calls Try.prog 29 #[.int .i64 a, .int .i64 2147483648] w fun e w' => e = .returned (.bool (within a 2147483648)) ∧ w = w' :=
  within_any a 2147483648 ha (by unfold I64; decide) w

set_option maxHeartbeats 1000000 in
theorem walk_floor (a b c : Int) (ha : I64 a) (hb : I64 b) (hc : I64 c) (w : World) :
    Calls Try.prog 9 #[.int .i64 a, .int .i64 b, .int .i64 c] w fun e w' => e = .returned (.bool true) ∧ Quiet w w' := by
  have HA := Lib.hid ha
  have HB := Lib.hid hb
  have HC := Lib.hid hc
  clear ha hb hc
  cases h0 : (c == 0)
  · cases h1 : within a 2147483648
    · go_enter Try.func9, Try.ntmps9
      go_wp2_with fail
      refine (wi a HA.out _).mono ?_; rintro e w' ⟨rfl, rfl⟩
      go_wp2_with fail
      refine (known_any _).mono ?_; rintro e w' ⟨rfl, hq⟩
      go_wp2_with fail
      go_ret
      exact ⟨rfl, hq⟩
    · cases h2 : within b 2147483648
      · go_enter Try.func9, Try.ntmps9
        go_wp2_with fail
        refine (wi a HA.out _).mono ?_; rintro e w' ⟨rfl, rfl⟩
        go_wp2_with fail
        refine (wi b HB.out _).mono ?_; rintro e w' ⟨rfl, rfl⟩
        go_wp2_with fail
        refine (known_any _).mono ?_; rintro e w' ⟨rfl, hq⟩
        go_wp2_with fail
        go_ret
        exact ⟨rfl, hq⟩
      · cases h3 : within c 2147483648
        · go_enter Try.func9, Try.ntmps9
          go_wp2_with fail
          refine (wi a HA.out _).mono ?_; rintro e w' ⟨rfl, rfl⟩
          go_wp2_with fail
          refine (wi b HB.out _).mono ?_; rintro e w' ⟨rfl, rfl⟩
          go_wp2_with fail
          refine (wi c HC.out _).mono ?_; rintro e w' ⟨rfl, rfl⟩
          go_wp2_with fail
          refine (known_any _).mono ?_; rintro e w' ⟨rfl, hq⟩
          go_wp2_with fail
          go_ret
          exact ⟨rfl, hq⟩
        · have c0 : c ≠ 0 := by simpa using h0
          have g1 := within_iff h1
          have g2 := within_iff h2
          have g3 := within_iff h3
          have hp := ml_bd g1.2 g2.2
          have hqb := fl_bd c0 hp
          have MD := Lib.hid (fun q (h : fl (a * b) c = q) W => md_in a b c q g1.2 g2.2 g3.2 c0 h W)
          have ML := Lib.hid (fun p (h : a * b = p) W => ml_in a b p g1.2 g2.2 h W)
          have up := Lib.hid (fun h => fl_up (x := a * b) (c := c) h)
          have down := Lib.hid (fun h => fl_down (x := a * b) (c := c) h)
          obtain ⟨p, hpe⟩ : ∃ p, a * b = p := ⟨_, rfl⟩
          rw [hpe] at MD up down hp hqb
          obtain ⟨q, hqe⟩ : ∃ q, fl p c = q := ⟨_, rfl⟩
          rw [hqe] at up down hqb
          have MD := Lib.hid (MD.out q hqe)
          have ML := Lib.hid (ML.out p hpe)
          clear hqe hpe
          obtain ⟨_, g3a, g3b⟩ := g3
          obtain ⟨hp1, hp2⟩ := hp
          obtain ⟨hq1, hq2⟩ := hqb
          clear g1 g2
          have dn : (c < 0 ∧ p - q * c ≤ 0 ∧ c < p - q * c) ∨ (0 < c ∧ 0 ≤ p - q * c ∧ p - q * c < c) := by
            rcases Int.lt_or_gt_of_ne c0 with hs | hs
            · exact .inl ⟨hs, down.out hs⟩
            · exact .inr ⟨hs, up.out hs⟩
          clear up down
          rcases dn with ⟨hs, d1, d2⟩ | ⟨hs, d1, d2⟩
          all_goals
            go_enter Try.func9, Try.ntmps9
            go_wp2_with fail
            refine (wi a HA.out _).mono ?_; rintro e w' ⟨rfl, rfl⟩
            go_wp2_with fail
            refine (wi b HB.out _).mono ?_; rintro e w' ⟨rfl, rfl⟩
            go_wp2_with fail
            refine (wi c HC.out _).mono ?_; rintro e w' ⟨rfl, rfl⟩
            go_wp2_with fail
            refine (MD.out _).mono ?_; rintro e w' ⟨rfl, n, rfl⟩
            go_wp2_with fail
            refine (ML.out _).mono ?_; rintro e w' ⟨rfl, rfl⟩
            go_wp2_with fail
            refine (known_any _).mono ?_; rintro e w' ⟨rfl, hq⟩
            go_wp2_with fail
            go_ret
            exact ⟨rfl, ((Quiet.refl w).drewN n).trans hq⟩
  · go_enter Try.func9, Try.ntmps9
    go_wp2_with fail
    refine (known_any _).mono ?_; rintro e w' ⟨rfl, hq⟩
    go_wp2_with fail
    go_ret
    exact ⟨rfl, hq⟩

theorem fl_turn2 (a b c : Int) (h : c ≠ 0) : fl (-a * b) (-c) = fl (a * b) c := by
  unfold fl
  rw [Int.neg_mul, Int.neg_neg]
  by_cases k : c < 0
  · rw [if_neg (by omega), if_pos k]
  · rw [if_pos (by omega), if_neg k, Int.neg_neg]
theorem fl_turn0 (a b c : Int) : fl (-a * -b) c = fl (a * b) c := by rw [Int.neg_mul_neg]
theorem tmod_iff (x c : Int) : x.tmod c = 0 ↔ x % c = 0 :=
  ⟨fun h => Int.emod_eq_zero_of_dvd (Int.dvd_of_tmod_eq_zero h), fun h => Int.tmod_eq_zero_of_dvd (Int.dvd_of_emod_eq_zero h)⟩
theorem tmod_neg_iff (x c : Int) : x.tmod c = 0 ↔ -x % -c = 0 := by
  rw [tmod_iff]
  exact ⟨fun h => Int.emod_eq_zero_of_dvd (Int.neg_dvd.2 (Int.dvd_neg.2 (Int.dvd_of_emod_eq_zero h))), fun h => Int.emod_eq_zero_of_dvd (Int.dvd_neg.1 (Int.neg_dvd.1 (Int.dvd_of_emod_eq_zero h)))⟩
theorem fl_turn1 (a b c : Int) (h : c ≠ 0) : fl (-a * b) c = if (a * b).tmod c = 0 then -fl (a * b) c else -fl (a * b) c - 1 := by
  rw [Int.neg_mul]
  generalize a * b = x
  unfold fl
  by_cases k : c < 0
  · rw [if_pos k, if_pos k]
    by_cases z : x.tmod c = 0
    · rw [if_pos z]; exact neg_div0 (-x) (-c) (by omega) ((tmod_neg_iff x c).1 z)
    · rw [if_neg z, neg_div1 (-x) (-c) (by omega) (fun e => z ((tmod_neg_iff x c).2 e))]; omega
  · rw [if_neg k, if_neg k]
    by_cases z : x.tmod c = 0
    · rw [if_pos z]; exact neg_div0 x c (by omega) ((tmod_iff x c).1 z)
    · rw [if_neg z, neg_div1 x c (by omega) (fun e => z ((tmod_iff x c).2 e))]; omega

set_option maxHeartbeats 2000000 in
theorem walk_signs (a b c : Int) (ha : I64 a) (hb : I64 b) (hc : I64 c) (w : World) :
    Calls Try.prog 12 #[.int .i64 a, .int .i64 b, .int .i64 c] w fun e w' => e = .returned (.bool true) ∧ Quiet w w' := by
  have HA := Lib.hid ha
  have HB := Lib.hid hb
  have HC := Lib.hid hc
  clear ha hb hc
  cases h0 : (c == 0)
  · cases h1 : within a 2147483648
    · go_enter Try.func12, Try.ntmps12
      go_wp2_with fail
      refine (wi a HA.out _).mono ?_; rintro e w' ⟨rfl, rfl⟩
      go_wp2_with fail
      refine (known_any _).mono ?_; rintro e w' ⟨rfl, hq⟩
      go_wp2_with fail
      go_ret
      exact ⟨rfl, hq⟩
    · cases h2 : within b 2147483648
      · go_enter Try.func12, Try.ntmps12
        go_wp2_with fail
        refine (wi a HA.out _).mono ?_; rintro e w' ⟨rfl, rfl⟩
        go_wp2_with fail
        refine (wi b HB.out _).mono ?_; rintro e w' ⟨rfl, rfl⟩
        go_wp2_with fail
        refine (known_any _).mono ?_; rintro e w' ⟨rfl, hq⟩
        go_wp2_with fail
        go_ret
        exact ⟨rfl, hq⟩
      · cases h3 : within c 2147483648
        · go_enter Try.func12, Try.ntmps12
          go_wp2_with fail
          refine (wi a HA.out _).mono ?_; rintro e w' ⟨rfl, rfl⟩
          go_wp2_with fail
          refine (wi b HB.out _).mono ?_; rintro e w' ⟨rfl, rfl⟩
          go_wp2_with fail
          refine (wi c HC.out _).mono ?_; rintro e w' ⟨rfl, rfl⟩
          go_wp2_with fail
          refine (known_any _).mono ?_; rintro e w' ⟨rfl, hq⟩
          go_wp2_with fail
          go_ret
          exact ⟨rfl, hq⟩
        · have c0 : c ≠ 0 := by simpa using h0
          have g1 := within_iff h1
          have g2 := within_iff h2
          have g3 := within_iff h3
          have hp := ml_bd g1.2 g2.2
          have hqb := fl_bd c0 hp
          have c0' : -c ≠ 0 := by omega
          obtain ⟨q, hqe⟩ : ∃ q, fl (a * b) c = q := ⟨_, rfl⟩
          rw [hqe] at hqb
          have M1 := Lib.hid (fun W => md_in a b c q g1.2 g2.2 g3.2 c0 hqe W)
          have M2 := Lib.hid (fun W => md_in (-a) b (-c) q (by omega) g2.2 (by omega) c0' (by rw [fl_turn2 a b c c0, hqe]) W)
          have M3 := Lib.hid (fun W => md_in (-a) (-b) c q (by omega) (by omega) g3.2 c0 (by rw [fl_turn0, hqe]) W)
          have M4 := Lib.hid (fun z (h : fl (-a * b) c = z) W => md_in (-a) b c z (by omega) g2.2 g3.2 c0 h W)
          have T := Lib.hid (fl_turn1 a b c c0)
          rw [hqe] at T
          obtain ⟨_, g1a, g1b⟩ := g1
          obtain ⟨_, g2a, g2b⟩ := g2
          obtain ⟨_, g3a, g3b⟩ := g3
          obtain ⟨hp1, hp2⟩ := hp
          obtain ⟨hq1, hq2⟩ := hqb
          clear hqe c0'
          have M4' : ∃ t, Hid (∀ W, Calls Try.prog 24 #[.int .i64 (-a), .int .i64 b, .int .i64 c] W fun e w' => e = .returned (.tuple #[.int .i64 t, .int .i64 0]) ∧ ∃ n, W.drewN n = w') ∧
              (((a * b).tmod c == 0) = true ∧ t = -q ∨ ((a * b).tmod c == 0) = false ∧ t = -q - 1) := by
            cases z : ((a * b).tmod c == 0)
            · exact ⟨-q - 1, Lib.hid (M4.out (-q - 1) (by rw [T.out, if_neg (by simpa using z)])), .inr ⟨rfl, rfl⟩⟩
            · exact ⟨-q, Lib.hid (M4.out (-q) (by rw [T.out, if_pos (by simpa using z)])), .inl ⟨rfl, rfl⟩⟩
          clear T M4
          obtain ⟨t, M4', ⟨z, rfl⟩ | ⟨z, rfl⟩⟩ := M4'
          all_goals
            go_enter Try.func12, Try.ntmps12
            go_wp2_with fail
            refine (wi a HA.out _).mono ?_; rintro e w' ⟨rfl, rfl⟩
            go_wp2_with fail
            refine (wi b HB.out _).mono ?_; rintro e w' ⟨rfl, rfl⟩
            go_wp2_with fail
            refine (wi c HC.out _).mono ?_; rintro e w' ⟨rfl, rfl⟩
            go_wp2_with fail
            refine (M1.out _).mono ?_; rintro e w' ⟨rfl, n1, rfl⟩
            go_wp2_with fail
            refine (M2.out _).mono ?_; rintro e w' ⟨rfl, n2, rfl⟩
            go_wp2_with fail
            refine (M3.out _).mono ?_; rintro e w' ⟨rfl, n3, rfl⟩
            go_wp2_with fail
            refine (M4'.out _).mono ?_; rintro e w' ⟨rfl, n4, rfl⟩
            go_wp2_with fail
            refine (known_any _).mono ?_; rintro e w' ⟨rfl, hq⟩
            go_wp2_with fail
            go_ret
            exact ⟨rfl, ((Quiet.refl w).drewN _).trans hq⟩
  · go_enter Try.func12, Try.ntmps12
    go_wp2_with fail
    refine (known_any _).mono ?_; rintro e w' ⟨rfl, hq⟩
    go_wp2_with fail
    go_ret
    exact ⟨rfl, hq⟩
end Go.Proofs.Ytgjaknfphokjpaa
