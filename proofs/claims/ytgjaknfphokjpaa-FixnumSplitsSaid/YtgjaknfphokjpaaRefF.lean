/- Contracts of the document's plain answers for sums, differences and negatives, and the walk of the statement FixnumSums: it returns true for every two int64 numbers. -/
import Derived.Test.YtgjaknfphokjpaaRefE
namespace Go.Proofs.Ytgjaknfphokjpaa
open Go.RowKit

theorem T12 : (36893488147419103232 : Int) < Rf.T 12 := by decide
theorem sgn_mag (a : Int) : sgn (decide (a < 0)) (mag a) = a := by
  unfold sgn mag
  by_cases h : a < 0 <;> simp [h]
/-- A number is told whose value is x and whose size is at most b. -/
def IsNum (x b : Int) (e : Ending) : Prop := ∃ u N, e = .returned (.agg (nm u (dgs N))) ∧ 0 ≤ N ∧ N ≤ b ∧ sgn u N = x
theorem plus_num (s t : Bool) (A C b : Int) (hA : 0 ≤ A) (hC : 0 ≤ C) (hb : A + C ≤ b) (h12 : b < Rf.T 12) (w : World) :
    Calls Try.prog 33 #[.agg (nm s (dgs A)), .agg (nm t (dgs C))] w fun e w' => IsNum (sgn s A + sgn t C) b e ∧ Quiet w w' := by
  by_cases hst : s = t
  · subst hst
    refine (plus_same s A C w).mono ?_
    rintro e w' ⟨rfl, hq⟩
    exact ⟨⟨s, A + C, rfl, by omega, hb, by unfold sgn; split <;> omega⟩, hq⟩
  · have hA1 : A < Rf.T 12 := by omega
    have hC1 : C < Rf.T 12 := by omega
    cases hl : ltB A C
    · have h : C ≤ A := by unfold ltB at hl; have := of_decide_eq_false hl; omega
      cases s <;> cases t
      · exact absurd rfl hst
      · refine (plus_ge_ft A C hA hC hA1 hC1 hl w).mono ?_
        rintro e w' ⟨rfl, hq⟩
        exact ⟨⟨false, A - C, rfl, by omega, by omega, by simp only [sgn]; simp; omega⟩, hq⟩
      · refine (plus_ge_tf A C hA hC hA1 hC1 hl w).mono ?_
        rintro e w' ⟨rfl, hq⟩
        exact ⟨⟨true, A - C, rfl, by omega, by omega, by simp only [sgn]; simp; omega⟩, hq⟩
      · exact absurd rfl hst
    · have h : A < C := by unfold ltB at hl; exact of_decide_eq_true hl
      cases s <;> cases t
      · exact absurd rfl hst
      · refine (plus_lt_ft A C hA hC hA1 hC1 hl w).mono ?_
        rintro e w' ⟨rfl, hq⟩
        exact ⟨⟨true, C - A, rfl, by omega, by omega, by simp only [sgn]; simp; omega⟩, hq⟩
      · refine (plus_lt_tf A C hA hC hA1 hC1 hl w).mono ?_
        rintro e w' ⟨rfl, hq⟩
        exact ⟨⟨false, C - A, rfl, by omega, by omega, by simp only [sgn]; simp; omega⟩, hq⟩
      · exact absurd rfl hst

theorem tO_tE (x : Int) : tE x = if tO x then 0 else 6 := by
  unfold tE tO
  by_cases h : -9223372036854775808 ≤ x ∧ x ≤ 9223372036854775807
  · rw [if_pos h, decide_eq_true h]; rfl
  · rw [if_neg h, decide_eq_false h]; rfl
theorem tN_no {x : Int} (h : tO x = false) : tN x = 0 := by
  unfold tO at h; unfold tN; exact if_neg (of_decide_eq_false h)

set_option maxHeartbeats 400000 in
theorem told_any (s : Bool) (N : Int) (h0 : 0 ≤ N) (h1 : N < Rf.T 12) (w : World) :
    Calls Try.prog 31 #[.agg (nm s (dgs N))] w fun e w' => e = .returned (.tuple #[.int .i64 (tN (sgn s N)), .int .i64 (tE (sgn s N))]) ∧ Quiet w w' := by
  have r0 := Row.new w 42 (nm s (dgs N))
  have R0 := Lib.hid r0
  have I := Lib.hid (fun W => int_any s N h0 h1 W)
  have E := Lib.hid (tO_tE (sgn s N))
  have F := Lib.hid (tN_no (x := sgn s N))
  clear r0 h0 h1
  cases ho : tO (sgn s N)
  all_goals
    go_enter Try.func31, Try.ntmps31
    go_wp2_with (first
      | (refine wl_load_nm w.heap.size s (dgs N) ?_ ?_ ?_; rfl; exact R0.out)
      | (go_at_call 47; refine (I.out _).mono ?_; rintro e w1 ⟨rfl, hq⟩))
    go_ret2
  · exact ⟨ret2 (F.out ho).symm (by rw [E.out, ho]; rfl), ((Quiet.refl w).alloc _ _).trans hq⟩
  · exact ⟨ret2 rfl (by rw [E.out, ho]; rfl), ((Quiet.refl w).alloc _ _).trans hq⟩

set_option maxHeartbeats 400000 in
theorem refadd_any (a b : Int) (ha : I64 a) (hb : I64 b) (w : World) :
    Calls Try.prog 16 #[.int .i64 a, .int .i64 b] w fun e w' => e = .returned (.tuple #[.int .i64 (tN (a + b)), .int .i64 (tE (a + b))]) ∧ Quiet w w' := by
  have m1 := mag_bd a ha
  have m2 := mag_bd b hb
  have O1 := Lib.hid (fun W => of_any a ha W)
  have O2 := Lib.hid (fun W => of_any b hb W)
  have P := Lib.hid (fun W => plus_num (decide (a < 0)) (decide (b < 0)) (mag a) (mag b) 36893488147419103232 m1.1 m2.1 (by omega) T12 W)
  have e1 := sgn_mag a
  have e2 := sgn_mag b
  rw [e1, e2] at P
  clear m1 m2 e1 e2 ha hb
  go_enter Try.func16, Try.ntmps16
  go_wp2_with fail
  refine (O1.out _).mono ?_; rintro e w1 ⟨rfl, q1⟩
  go_wp2_with fail
  refine (O2.out _).mono ?_; rintro e w2 ⟨rfl, q2⟩
  go_wp2_with fail
  refine (P.out _).mono ?_; rintro e w3 ⟨⟨u, N, rfl, n0, n1, hx⟩, q3⟩
  have T := Lib.hid (fun W => told_any u N n0 (Int.lt_of_le_of_lt n1 T12) W)
  rw [hx] at T
  clear hx n0 n1
  go_wp2_with fail
  refine (T.out _).mono ?_; rintro e w4 ⟨rfl, q4⟩
  go_wp2_with fail
  go_ret2
  exact ⟨rfl, q1.trans (q2.trans (q3.trans q4))⟩

theorem sgn_not (s : Bool) (N : Int) : sgn (!s) N = -sgn s N := by cases s <;> simp [sgn]

set_option maxHeartbeats 400000 in
theorem refsub_any (a b : Int) (ha : I64 a) (hb : I64 b) (w : World) :
    Calls Try.prog 17 #[.int .i64 a, .int .i64 b] w fun e w' => e = .returned (.tuple #[.int .i64 (tN (a - b)), .int .i64 (tE (a - b))]) ∧ Quiet w w' := by
  have m1 := mag_bd a ha
  have m2 := mag_bd b hb
  have O1 := Lib.hid (fun W => of_any a ha W)
  have O2 := Lib.hid (fun W => of_any b hb W)
  have M := Lib.hid (fun W => turn_any (decide (b < 0)) (mag b) W)
  have P := Lib.hid (fun W => plus_num (decide (a < 0)) (!decide (b < 0)) (mag a) (mag b) 36893488147419103232 m1.1 m2.1 (by omega) T12 W)
  have e1 := sgn_mag a
  have e2 := sgn_mag b
  rw [sgn_not, e1, e2, ← Int.sub_eq_add_neg] at P
  clear m1 m2 e1 e2 ha hb
  go_enter Try.func17, Try.ntmps17
  go_wp2_with fail
  refine (O1.out _).mono ?_; rintro e w1 ⟨rfl, q1⟩
  go_wp2_with fail
  refine (O2.out _).mono ?_; rintro e w2 ⟨rfl, q2⟩
  go_wp2_with fail
  refine (M.out _).mono ?_; rintro e w5 ⟨rfl, q5⟩
  go_wp2_with fail
  refine (P.out _).mono ?_; rintro e w3 ⟨⟨u, N, rfl, n0, n1, hx⟩, q3⟩
  have T := Lib.hid (fun W => told_any u N n0 (Int.lt_of_le_of_lt n1 T12) W)
  rw [hx] at T
  clear hx n0 n1
  go_wp2_with fail
  refine (T.out _).mono ?_; rintro e w4 ⟨rfl, q4⟩
  go_wp2_with fail
  go_ret2
  exact ⟨rfl, q1.trans (q2.trans (q5.trans (q3.trans q4)))⟩

set_option maxHeartbeats 400000 in
theorem refneg_any (a : Int) (ha : I64 a) (w : World) :
    Calls Try.prog 18 #[.int .i64 a] w fun e w' => e = .returned (.tuple #[.int .i64 (tN (-a)), .int .i64 (tE (-a))]) ∧ Quiet w w' := by
  have m1 := mag_bd a ha
  have O1 := Lib.hid (fun W => of_any a ha W)
  have M := Lib.hid (fun W => turn_any (decide (a < 0)) (mag a) W)
  have T := Lib.hid (fun W => told_any (!decide (a < 0)) (mag a) m1.1 (Int.lt_of_le_of_lt (show mag a ≤ 36893488147419103232 by omega) T12) W)
  have e1 := sgn_mag a
  rw [sgn_not, e1] at T
  clear m1 e1 ha
  go_enter Try.func18, Try.ntmps18
  go_wp2_with fail
  refine (O1.out _).mono ?_; rintro e w1 ⟨rfl, q1⟩
  go_wp2_with fail
  refine (M.out _).mono ?_; rintro e w5 ⟨rfl, q5⟩
  go_wp2_with fail
  refine (T.out _).mono ?_; rintro e w4 ⟨rfl, q4⟩
  go_wp2_with fail
  go_ret2
  exact ⟨rfl, q1.trans (q5.trans q4)⟩

set_option maxHeartbeats 1000000 in
theorem walk_sums (a b : Int) (ha : I64 a) (hb : I64 b) (w : World) :
    Calls Try.prog 3 #[.int .i64 a, .int .i64 b] w fun e w' => e = .returned (.bool true) ∧ Quiet w w' := by
  have HA := Lib.hid ha
  have HB := Lib.hid hb
  clear ha hb
  go_enter Try.func3, Try.ntmps3
  go_wp2_with fail
  refine (add_any a b HA.out HB.out _).mono ?_; rintro e w' ⟨rfl, rfl⟩
  go_wp2_with fail
  refine (sub_any a b HA.out HB.out _).mono ?_; rintro e w' ⟨rfl, rfl⟩
  go_wp2_with fail
  refine (neg_any a HA.out _).mono ?_; rintro e w' ⟨rfl, rfl⟩
  go_wp2_with fail
  refine (refadd_any a b HA.out HB.out _).mono ?_; rintro e w1 ⟨rfl, q1⟩
  go_wp2_with fail
  refine (refsub_any a b HA.out HB.out _).mono ?_; rintro e w2 ⟨rfl, q2⟩
  go_wp2_with fail
  refine (refneg_any a HA.out _).mono ?_; rintro e w3 ⟨rfl, q3⟩
  go_wp2_with fail
  refine (known_any _).mono ?_; rintro e w4 ⟨rfl, q4⟩
  go_wp2_with fail
  go_ret
  exact ⟨rfl, ((Quiet.refl w).alloc _ _).trans (q1.trans (q2.trans (q3.trans q4)))⟩
end Go.Proofs.Ytgjaknfphokjpaa
