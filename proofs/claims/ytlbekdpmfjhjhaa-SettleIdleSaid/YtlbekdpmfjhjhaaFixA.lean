/- Contracts of the functions of package fixnum that add, subtract and compare: each returns the true number, or tells that it does not fit in 64 bits. Conditions: the arguments are int64 numbers; a list is shorter than 2^60. -/
import Derived.Test.YtlbekdpmfjhjhaaRows
import Derived.WalkKit
import Derived.WalkSpells
import Derived.WalkLawsBesides
import Derived.Laws.Externs
import Derived.Shelf.Spec.BitsCarry
import Derived.Lib.Hide
namespace Go.Proofs.Ytlbekdpmfjhjhaa
open Go.RowKit

/-- The number that a call tells: it, or 0 where it does not fit. -/
def tN (x : Int) : Int := if -9223372036854775808 ≤ x ∧ x ≤ 9223372036854775807 then x else 0
/-- The error that a call tells: none, or 6 (it does not fit). -/
def tE (x : Int) : Int := if -9223372036854775808 ≤ x ∧ x ≤ 9223372036854775807 then 0 else 6
/-- A 64-bit number with a sign. -/
def I64 (x : Int) : Prop := -9223372036854775808 ≤ x ∧ x ≤ 9223372036854775807
/-- A 64-bit number without one. -/
def U64 (x : Int) : Prop := 0 ≤ x ∧ x < 18446744073709551616

/-- The low word of a sum with a carry, and the carry. -/
def a64 (x y c : Int) : Int := (x + y + c) % 18446744073709551616
def c64 (x y c : Int) : Int := (x + y + c) / 18446744073709551616
theorem add64 (x y c : Int) (hx : 0 ≤ x) (hy : 0 ≤ y) (hc0 : 0 ≤ c) (hc : c ≤ 1) (w : World) : (callFunc 37 #[.int .u64 x, .int .u64 y, .int .u64 c]).run Try.prog w =
    .ok (.value (.tuple #[.int .u64 (a64 x y c), .int .u64 (c64 x y c)])) w := by
  obtain ⟨x, rfl⟩ := Int.eq_ofNat_of_zero_le hx
  obtain ⟨y, rfl⟩ := Int.eq_ofNat_of_zero_le hy
  obtain ⟨c, rfl⟩ := Int.eq_ofNat_of_zero_le hc0
  rw [run_callFunc_extern Try.func37 (by kernel_rfl) (by kernel_rfl) (by kernel_rfl) (e := add64Entry) (by kernel_rfl), run_add64 x y c (by omega) (by omega) (by omega) (by omega)]
  rfl

theorem ret2 {x y x' y' : Int} (h : x = x') (k : y = y') : Ending.returned (.tuple #[.int .i64 x, .int .i64 y]) = Ending.returned (.tuple #[.int .i64 x', .int .i64 y']) := by rw [h, k]
theorem ret1 {k : IntKind} {x x' : Int} (h : x = x') : Ending.returned (.int k x) = Ending.returned (.int k x') := by rw [h]
theorem retB {x x' : Bool} (h : x = x') : Ending.returned (.bool x) = Ending.returned (.bool x') := by rw [h]

theorem sub_bad (a b : Int) (ha : I64 a) (hb : I64 b) (h : (!decide (wrap64 (a - b) < a) == decide (0 < b)) = true) : 0 = tN (a - b) ∧ 6 = tE (a - b) := by
  unfold I64 at ha hb; unfold tN tE; unfold wrap64 at h
  by_cases h1 : (a - b + 9223372036854775808) % 18446744073709551616 - 9223372036854775808 < a <;> by_cases h2 : 0 < b <;> simp [h1, h2] at h
  all_goals (rw [if_neg (by omega), if_neg (by omega)]; exact ⟨rfl, rfl⟩)
theorem sub_good (a b : Int) (ha : I64 a) (hb : I64 b) (h : (!decide (wrap64 (a - b) < a) == decide (0 < b)) = false) : wrap64 (a - b) = tN (a - b) ∧ 0 = tE (a - b) := by
  unfold I64 at ha hb; unfold tN tE; unfold wrap64 at h ⊢
  by_cases h1 : (a - b + 9223372036854775808) % 18446744073709551616 - 9223372036854775808 < a <;> by_cases h2 : 0 < b <;> simp [h1, h2] at h
  all_goals (rw [if_pos (by omega), if_pos (by omega)]; exact ⟨by omega, rfl⟩)





















/-- What Within answers. -/
def within (a m : Int) : Bool := decide (0 ≤ m ∧ -m ≤ a ∧ a ≤ m)
theorem within_pos {a m : Int} (h : 0 ≤ m ∧ -m ≤ a ∧ a ≤ m) : within a m = true := decide_eq_true h
theorem within_neg {a m : Int} (h : ¬ (0 ≤ m ∧ -m ≤ a ∧ a ≤ m)) : within a m = false := decide_eq_false h

set_option maxHeartbeats 400000 in
theorem within_any (a m : Int) (ha : I64 a) (hm : I64 m) (w : World) :
    Calls Try.prog 22 #[.int .i64 a, .int .i64 m] w fun e w' => e = .returned (.bool (within a m)) ∧ w = w' := by
  unfold I64 at ha hm
  obtain ⟨ha1, ha2⟩ := ha
  obtain ⟨hm1, hm2⟩ := hm
  by_cases h0 : 0 ≤ m
  · by_cases h1 : -m ≤ a
    · by_cases h2 : a ≤ m
      · have H := Lib.hid (within_pos ⟨h0, h1, h2⟩)
        go_enter Try.func22, Try.ntmps22
        go_wp2
        go_ret
        exact ⟨retB H.out.symm, rfl⟩
      · have H := Lib.hid (within_neg (a := a) (m := m) (by omega))
        go_enter Try.func22, Try.ntmps22
        go_wp2
        go_ret
        exact ⟨retB H.out.symm, rfl⟩
    · have H := Lib.hid (within_neg (a := a) (m := m) (by omega))
      go_enter Try.func22, Try.ntmps22
      go_wp2
      go_ret
      exact ⟨retB H.out.symm, rfl⟩
  · have H := Lib.hid (within_neg (a := a) (m := m) (by omega))
    go_enter Try.func22, Try.ntmps22
    go_wp2
    go_ret
    exact ⟨retB H.out.symm, rfl⟩

/-- The word above a number that is held in two; the number's own low word. -/
def up (n : Int) : Int := n / 18446744073709551616 % 18446744073709551616
def lw (n : Int) : Int := n % 18446744073709551616
theorem up_bd (n : Int) : 0 ≤ up n ∧ up n ≤ 18446744073709551615 := by unfold up; omega
theorem lw_bd (n : Int) : 0 ≤ lw n ∧ lw n ≤ 18446744073709551615 := by unfold lw; omega
theorem u64_wrap (n : Int) : IntKind.u64.wrap n = lw n := by unfold lw; exact IntKind.wrap_u64 n
theorem up_of (n : Int) (hn : I64 n) : IntKind.u64.wrap (n / 9223372036854775808) = up n := by
  unfold I64 at hn; rw [IntKind.wrap_u64]; unfold up; omega

set_option maxHeartbeats 400000 in
theorem upper_any (n : Int) (hn : I64 n) (w : World) :
    Calls Try.prog 38 #[.int .i64 n] w fun e w' => e = .returned (.int .u64 (up n)) ∧ w = w' := by
  have H := Lib.hid (up_of n hn)
  unfold I64 at hn
  go_enter Try.func38, Try.ntmps38
  go_wp2
  go_ret
  exact ⟨ret1 H.out, rfl⟩

/-- A number without its sign. -/
def mag (n : Int) : Int := if n < 0 then -n else n
theorem mag_bd (n : Int) (hn : I64 n) : 0 ≤ mag n ∧ mag n ≤ 9223372036854775808 := by unfold I64 at hn; unfold mag; split <;> omega




















/-- What a sign and a magnitude are together. -/
def sgn (s : Bool) (m : Int) : Int := if s then -m else m
theorem tN_in {x : Int} (h : I64 x) : tN x = x := if_pos h
theorem tE_in {x : Int} (h : I64 x) : tE x = 0 := if_pos h
theorem tN_out {x : Int} (h : ¬ I64 x) : tN x = 0 := if_neg h
theorem tE_out {x : Int} (h : ¬ I64 x) : tE x = 6 := if_neg h











































/-- The two words of a sum. -/
def hiS (S : Int) : Int := S / 18446744073709551616 % 18446744073709551616
theorem hi_bd (n : Int) : 0 ≤ hiS n ∧ hiS n ≤ 18446744073709551615 := by unfold hiS; omega
theorem lo_step (S n : Int) : a64 (lw S) (IntKind.u64.wrap n) 0 = lw (S + n) := by rw [u64_wrap]; unfold a64 lw; omega
theorem hi_step (S n : Int) : a64 (hiS S) (up n) (c64 (lw S) (IntKind.u64.wrap n) 0) = hiS (S + n) := by
  rw [u64_wrap]; unfold a64 hiS lw c64 up; omega
theorem c_bd (x y : Int) (hx : 0 ≤ x ∧ x ≤ 18446744073709551615) (hy : 0 ≤ y ∧ y ≤ 18446744073709551615) : 0 ≤ c64 x y 0 ∧ c64 x y 0 ≤ 1 := by unfold c64; omega
theorem wr_bd (n : Int) : 0 ≤ IntKind.u64.wrap n ∧ IntKind.u64.wrap n ≤ 18446744073709551615 := by rw [u64_wrap]; exact lw_bd n
/-- The sum of a list. -/
def sm : List Int → Int
  | [] => 0
  | n :: l => n + sm l
theorem sm_snoc (l : List Int) (n : Int) : sm (l ++ [n]) = sm l + n := by
  induction l with
  | nil => simp [sm]
  | cons m l ih => simp only [List.cons_append, sm, ih]; omega
theorem sm_take (zs : List Int) (k : Nat) (h : k < zs.length) : sm (zs.take (k + 1)) = sm (zs.take k) + zs.getD k 0 := by
  rw [List.take_succ_eq_append_getElem h, sm_snoc]; simp [List.getD, h]
theorem sm_bd (l : List Int) (h : ∀ n, n ∈ l → I64 n) : -9223372036854775808 * (l.length : Int) ≤ sm l ∧ sm l ≤ 9223372036854775807 * (l.length : Int) := by
  induction l with
  | nil => simp [sm]
  | cons n l ih =>
    have h1 := ih fun m hm => h m (by simp [hm])
    have h2 := h n (by simp)
    unfold I64 at h2
    rw [List.length_cons]
    unfold sm
    omega
end Go.Proofs.Ytlbekdpmfjhjhaa
