/- The walk of the statement WireOrder, given the writing calls. -/
import Derived.Test.YtehmheohojnpmaaWk
namespace Go.Proofs.Ytehmheohojnpmaa
open Go.RowKit

theorem nb_mono (n : Nat) : ∀ m, n ≤ m → (nb n).length ≤ (nb m).length := by
  induction n using Nat.strongRecOn with
  | _ n ih =>
    intro m h
    by_cases h1 : n < 128
    · rw [nb_small h1]
      exact nb_pos m
    · rw [nb_big (n := n) (by omega), nb_big (n := m) (by omega)]
      have := ih (n / 128) (by omega) (m / 128) (by omega)
      simp only [List.length_cons]; omega
theorem nb_pair (s : Nat) : (nb (2 * s + 1)).length = (nb (2 * s)).length := by
  induction s using Nat.strongRecOn with
  | _ s ih =>
    by_cases h1 : 2 * s < 128
    · rw [nb_small (show 2 * s + 1 < 128 by omega), nb_small h1]; rfl
    · rw [nb_big (n := 2 * s + 1) (by omega), nb_big (n := 2 * s) (by omega), show (2 * s + 1) / 128 = 2 * s / 128 by omega]
      rfl
/-- The distance from 0. -/
def sz (i : Int) : Int := if i < 0 then -(i + 1) else i
theorem ib_sz (i : Int) : (ib i).length = (nb (2 * (sz i).toNat)).length := by
  unfold ib sz
  by_cases h : i < 0
  · rw [if_neg (by omega), if_pos h, ← nb_pair]
    congr 2; omega
  · rw [if_pos (by omega), if_neg h]
    congr 2; omega
theorem ib_mono {i j : Int} (h : sz i ≤ sz j) : (ib i).length ≤ (ib j).length := by
  rw [ib_sz, ib_sz]
  exact nb_mono _ _ (by omega)
theorem ib_pos (i : Int) : 0 < (ib i).length := by rw [ib_sz]; exact nb_pos _

set_option maxRecDepth 100000 in
theorem size_any (i : Int) (hi : -9223372036854775808 ≤ i ∧ i ≤ 9223372036854775807) (w : World) : Calls Try.prog 40 #[.int .i64 i] w fun e w' => e = .returned (.int .u64 (sz i)) ∧ w = w' := by
  by_cases h : i < 0
  · have E : sz i = -(i + 1) := if_pos h
    rw [E]
    clear E
    go_enter Try.func40, Try.ntmps40
    go_wp2
    go_ret
    exact ⟨rfl, rfl⟩
  · have E : sz i = i := if_neg h
    rw [E]
    clear E
    go_enter Try.func40, Try.ntmps40
    go_wp2
    go_ret
    exact ⟨rfl, rfl⟩

/-- A form alone. -/
def Alone (f : List Int) (W : World) (E : Ending) (W' : World) : Prop := ∃ A c, E = .returned (.slice A f.length c) ∧ RdB W' A f.length f ∧ Below W.heap.size W W' ∧ f.length ≤ c
theorem owns_nil (W : World) : Owns W W.heap.size (.slice none 0 0) [] := ⟨World.ownsRow_nil _ _ _ _, Nat.le_refl _, Nat.zero_le _⟩
theorem Wrote.alone {W : World} {f : List Int} {E : Ending} {W' : World} (h : Wrote W.heap.size (.slice none 0 0) [] f W E W') : Alone f W E W' := by
  have hb := h.below (owns_nil W) (Nat.le_refl _)
  obtain ⟨v', e, o, _⟩ := h
  rw [List.nil_append] at o
  obtain ⟨A, c, e2, r⟩ := owns_rd o
  have hc : f.length ≤ c := by
    rcases o.2 with ⟨e1, e3⟩ | ⟨g, cap, cur, e1, _, _, h1, _⟩
    · omega
    · rw [e1] at e2
      simp only [Value.slice.injEq] at e2
      omega
  exact ⟨A, c, by rw [e, e2], r, hb, hc⟩
theorem Writes.nat0 (K : Writes) (k : Nat) (hk : k < 18446744073709551616) (W : World) : Calls Try.prog 13 #[.slice none 0 0, .int .u64 k] W fun E W' => Alone (nb k) W E W' :=
  (K.nat _ _ [] k W (owns_nil W) hk).mono fun _ _ h => h.alone
theorem Writes.int0 (K : Writes) (i : Int) (hi : -9223372036854775808 ≤ i ∧ i ≤ 9223372036854775807) (W : World) : Calls Try.prog 15 #[.slice none 0 0, .int .i64 i] W fun E W' => Alone (ib i) W E W' :=
  (K.int _ _ [] i W (owns_nil W) hi).mono fun _ _ h => h.alone
theorem Writes.text0 (K : Writes) (A : Option Addr) (n c : Nat) (ts : List Int) (W : World) (h : RdB W A n ts) (hn : n ≤ 100000) (h0 : A = none → n = 0 ∧ c = 0) : Calls Try.prog 19 #[.slice none 0 0, .slice A n c] W fun E W' => Alone (tb ts) W E W' :=
  (K.text _ _ [] A n c ts W (owns_nil W) h hn h0 (fun _ _ e => by simp [Value.ownBlock] at e)).mono fun _ _ h => h.alone

set_option maxRecDepth 100000 in
set_option maxHeartbeats 8000000 in
theorem order_walk (K : Writes) (n m : Nat) (hn : n < 18446744073709551616) (hm : m < 18446744073709551616) (i j : Int) (hi : -9223372036854775808 ≤ i ∧ i ≤ 9223372036854775807) (hj : -9223372036854775808 ≤ j ∧ j ≤ 9223372036854775807) (w : World) :
    Calls Try.prog 9 #[.int .u64 n, .int .u64 m, .int .i64 i, .int .i64 j] w fun e w' => e = .returned (.bool true) ∧ Below w.heap.size w w' := by
  have N1 := Lib.hid (K.nat0 n hn)
  have N2 := Lib.hid (K.nat0 m hm)
  have I1 := Lib.hid (K.int0 i hi)
  have I2 := Lib.hid (K.int0 j hj)
  have S1 := Lib.hid (size_any i hi)
  have S2 := Lib.hid (size_any j hj)
  have KN := Lib.hid K.known
  have a1 := nb_pos n
  have a2 := nb_ten hn
  have b1 := ib_pos i
  have b2 := ib_ten hi
  have c1 : ¬ m < n → (nb n).length ≤ (nb m).length := fun c => nb_mono n m (by omega)
  have d1 : ¬ sz j < sz i → (ib i).length ≤ (ib j).length := fun c => ib_mono (by omega)
  clear K hn hm hi hj
  obtain ⟨L1, h1⟩ : ∃ L, (nb n).length = L := ⟨_, rfl⟩
  obtain ⟨L2, h2⟩ : ∃ L, (nb m).length = L := ⟨_, rfl⟩
  obtain ⟨L3, h3⟩ : ∃ L, (ib i).length = L := ⟨_, rfl⟩
  obtain ⟨L4, h4⟩ : ∃ L, (ib j).length = L := ⟨_, rfl⟩
  obtain ⟨s1, e1⟩ : ∃ s, sz i = s := ⟨_, rfl⟩
  obtain ⟨s2, e2⟩ : ∃ s, sz j = s := ⟨_, rfl⟩
  unfold Alone at N1 N2 I1 I2
  rw [h1] at N1 a1 a2 c1
  rw [h2] at N2 c1
  rw [h3] at I1 b1 b2 d1
  rw [h4] at I2 d1
  rw [e1] at S1 d1
  rw [e2] at S2 d1
  clear h1 h2 h3 h4 e1 e2
  have cc : (m : Int) < n ∨ (¬ (m : Int) < n ∧ L1 ≤ L2) := by
    by_cases c : m < n
    · exact .inl (by omega)
    · exact .inr ⟨by omega, c1 c⟩
  have dd : s2 < s1 ∨ (¬ s2 < s1 ∧ L3 ≤ L4) := by
    by_cases d : s2 < s1
    · exact .inl d
    · exact .inr ⟨d, d1 d⟩
  clear c1 d1
  rcases cc with c | ⟨c, c1⟩ <;> rcases dd with d | ⟨d, d1⟩
  all_goals
    go_enter Try.func9, Try.ntmps9
    go_wp2_with fail
    refine (N1.out _).mono ?_; rintro e w1 ⟨A1, k1, rfl, -, q1, -⟩
    go_wp2_with fail
    refine (N2.out _).mono ?_; rintro e w2 ⟨A2, k2, rfl, -, q2, -⟩
    have Q2 := Lib.hid (q1.trans (q2.mono q1.size))
    clear q1 q2
    go_wp2_with fail
    refine (I1.out _).mono ?_; rintro e w3 ⟨A3, k3, rfl, -, q3, -⟩
    have Q3 := Lib.hid (Q2.out.trans (q3.mono Q2.out.size))
    clear q3
    go_wp2_with fail
    refine (I2.out _).mono ?_; rintro e w4 ⟨A4, k4, rfl, -, q4, -⟩
    have Q4 := Lib.hid (Q3.out.trans (q4.mono Q3.out.size))
    clear q4
    go_wp2_with fail
    refine (S1.out _).mono ?_; rintro e w5 ⟨rfl, rfl⟩
    go_wp2_with fail
    refine (S2.out _).mono ?_; rintro e w5 ⟨rfl, rfl⟩
    go_wp2_with fail
    refine (KN.out _).mono ?_; rintro e w5 ⟨rfl, q5⟩
    have Q5 := Lib.hid (Q4.out.trans (q5.mono Q4.out.size))
    clear q5
    go_wp2_with fail
    go_ret
    exact ⟨rfl, Q5.out⟩
end Go.Proofs.Ytehmheohojnpmaa
