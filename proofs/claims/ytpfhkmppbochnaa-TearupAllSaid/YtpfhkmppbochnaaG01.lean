/- Texts of a proof, laid together: FixA, SortMath, SortA, SortB, SortC, SortD. -/
import Derived.Test.YtpfhkmppbochnaaRows
import Derived.WalkKit
import Derived.WalkSpells
import Derived.WalkLawsBesides
import Derived.Laws.Externs
import Derived.Shelf.Spec.BitsCarry
import Derived.Lib.Hide
import Derived.Sort.Row
import Derived.BigGuard
import Derived.BigCall
import Derived.CellFam
import Derived.Deep.Draws
import Derived.Deep.QuietTactic
import Derived.BigQuiet
import Derived.BigRegion
import Derived.Deep.Cut
/- Contracts of the functions of package fixnum that add, subtract and compare: each returns the true number, or tells that it does not fit in 64 bits. Conditions: the arguments are int64 numbers; a list is shorter than 2^60. -/
namespace Go.Proofs.Ytpfhkmppbochnaa
open Go.RowKit

/-- The number that a call tells: it, or 0 where it does not fit. -/
def tN (x : Int) : Int := if -9223372036854775808 ≤ x ∧ x ≤ 9223372036854775807 then x else 0
/-- The error that a call tells: none, or 6 (it does not fit). -/
def tE (x : Int) : Int := if -9223372036854775808 ≤ x ∧ x ≤ 9223372036854775807 then 0 else 6
/-- A 64-bit number with a sign. -/
def I64 (x : Int) : Prop := -9223372036854775808 ≤ x ∧ x ≤ 9223372036854775807
/-- A 64-bit number without one. -/
def U64 (x : Int) : Prop := 0 ≤ x ∧ x < 18446744073709551616

/-- The low word of a sum with a carry, and the carry. -/
def a64 (x y c : Int) : Int := (x + y + c) % 18446744073709551616
def c64 (x y c : Int) : Int := (x + y + c) / 18446744073709551616
theorem add64 (x y c : Int) (hx : 0 ≤ x) (hy : 0 ≤ y) (hc0 : 0 ≤ c) (hc : c ≤ 1) (w : World) : (callFunc 28 #[.int .u64 x, .int .u64 y, .int .u64 c]).run Try.prog w =
    .ok (.value (.tuple #[.int .u64 (a64 x y c), .int .u64 (c64 x y c)])) w := by
  obtain ⟨x, rfl⟩ := Int.eq_ofNat_of_zero_le hx
  obtain ⟨y, rfl⟩ := Int.eq_ofNat_of_zero_le hy
  obtain ⟨c, rfl⟩ := Int.eq_ofNat_of_zero_le hc0
  rw [run_callFunc_extern Try.func28 (by kernel_rfl) (by kernel_rfl) (by kernel_rfl) (e := add64Entry) (by kernel_rfl), run_add64 x y c (by omega) (by omega) (by omega) (by omega)]
  rfl

theorem ret2 {x y x' y' : Int} (h : x = x') (k : y = y') : Ending.returned (.tuple #[.int .i64 x, .int .i64 y]) = Ending.returned (.tuple #[.int .i64 x', .int .i64 y']) := by rw [h, k]
theorem ret1 {k : IntKind} {x x' : Int} (h : x = x') : Ending.returned (.int k x) = Ending.returned (.int k x') := by rw [h]
theorem retB {x x' : Bool} (h : x = x') : Ending.returned (.bool x) = Ending.returned (.bool x') := by rw [h]

theorem sub_bad (a b : Int) (ha : I64 a) (hb : I64 b) (h : (!decide (wrap64 (a - b) < a) == decide (0 < b)) = true) : 0 = tN (a - b) ∧ 6 = tE (a - b) := by
  unfold I64 at ha hb; unfold tN tE; unfold wrap64 at h
  by_cases h1 : (a - b + 9223372036854775808) % 18446744073709551616 - 9223372036854775808 < a <;> by_cases h2 : 0 < b <;> simp [h1, h2] at h
  all_goals (rw [if_neg (by omega), if_neg (by omega)]; exact ⟨rfl, rfl⟩)
theorem sub_good (a b : Int) (ha : I64 a) (hb : I64 b) (h : (!decide (wrap64 (a - b) < a) == decide (0 < b)) = false) : wrap64 (a - b) = tN (a - b) ∧ 0 = tE (a - b) := by
  unfold I64 at ha hb; unfold tN tE; unfold wrap64 at h ⊢
  by_cases h1 : (a - b + 9223372036854775808) % 18446744073709551616 - 9223372036854775808 < a <;> by_cases h2 : 0 < b <;> simp [h1, h2] at h
  all_goals (rw [if_pos (by omega), if_pos (by omega)]; exact ⟨by omega, rfl⟩)





















/-- What Within answers. -/
def within (a m : Int) : Bool := decide (0 ≤ m ∧ -m ≤ a ∧ a ≤ m)
theorem within_pos {a m : Int} (h : 0 ≤ m ∧ -m ≤ a ∧ a ≤ m) : within a m = true := decide_eq_true h
theorem within_neg {a m : Int} (h : ¬ (0 ≤ m ∧ -m ≤ a ∧ a ≤ m)) : within a m = false := decide_eq_false h

set_option maxHeartbeats 400000 in
theorem within_any (a m : Int) (ha : I64 a) (hm : I64 m) (w : World) :
    Calls Try.prog 11 #[.int .i64 a, .int .i64 m] w fun e w' => e = .returned (.bool (within a m)) ∧ w = w' := by
  unfold I64 at ha hm
  obtain ⟨ha1, ha2⟩ := ha
  obtain ⟨hm1, hm2⟩ := hm
  by_cases h0 : 0 ≤ m
  · by_cases h1 : -m ≤ a
    · by_cases h2 : a ≤ m
      · have H := Lib.hid (within_pos ⟨h0, h1, h2⟩)
        go_enter Try.func11, Try.ntmps11
        go_wp2
        go_ret
        exact ⟨retB H.out.symm, rfl⟩
      · have H := Lib.hid (within_neg (a := a) (m := m) (by omega))
        go_enter Try.func11, Try.ntmps11
        go_wp2
        go_ret
        exact ⟨retB H.out.symm, rfl⟩
    · have H := Lib.hid (within_neg (a := a) (m := m) (by omega))
      go_enter Try.func11, Try.ntmps11
      go_wp2
      go_ret
      exact ⟨retB H.out.symm, rfl⟩
  · have H := Lib.hid (within_neg (a := a) (m := m) (by omega))
    go_enter Try.func11, Try.ntmps11
    go_wp2
    go_ret
    exact ⟨retB H.out.symm, rfl⟩

/-- The word above a number that is held in two; the number's own low word. -/
def up (n : Int) : Int := n / 18446744073709551616 % 18446744073709551616
def lw (n : Int) : Int := n % 18446744073709551616
theorem up_bd (n : Int) : 0 ≤ up n ∧ up n ≤ 18446744073709551615 := by unfold up; omega
theorem lw_bd (n : Int) : 0 ≤ lw n ∧ lw n ≤ 18446744073709551615 := by unfold lw; omega
theorem u64_wrap (n : Int) : IntKind.u64.wrap n = lw n := by unfold lw; exact IntKind.wrap_u64 n
theorem up_of (n : Int) (hn : I64 n) : IntKind.u64.wrap (n / 9223372036854775808) = up n := by
  unfold I64 at hn; rw [IntKind.wrap_u64]; unfold up; omega

set_option maxHeartbeats 400000 in
theorem upper_any (n : Int) (hn : I64 n) (w : World) :
    Calls Try.prog 29 #[.int .i64 n] w fun e w' => e = .returned (.int .u64 (up n)) ∧ w = w' := by
  have H := Lib.hid (up_of n hn)
  unfold I64 at hn
  go_enter Try.func29, Try.ntmps29
  go_wp2
  go_ret
  exact ⟨ret1 H.out, rfl⟩

/-- A number without its sign. -/
def mag (n : Int) : Int := if n < 0 then -n else n
theorem mag_bd (n : Int) (hn : I64 n) : 0 ≤ mag n ∧ mag n ≤ 9223372036854775808 := by unfold I64 at hn; unfold mag; split <;> omega




















/-- What a sign and a magnitude are together. -/
def sgn (s : Bool) (m : Int) : Int := if s then -m else m
theorem tN_in {x : Int} (h : I64 x) : tN x = x := if_pos h
theorem tE_in {x : Int} (h : I64 x) : tE x = 0 := if_pos h
theorem tN_out {x : Int} (h : ¬ I64 x) : tN x = 0 := if_neg h
theorem tE_out {x : Int} (h : ¬ I64 x) : tE x = 6 := if_neg h











































/-- The two words of a sum. -/
def hiS (S : Int) : Int := S / 18446744073709551616 % 18446744073709551616
theorem hi_bd (n : Int) : 0 ≤ hiS n ∧ hiS n ≤ 18446744073709551615 := by unfold hiS; omega
theorem lo_step (S n : Int) : a64 (lw S) (IntKind.u64.wrap n) 0 = lw (S + n) := by rw [u64_wrap]; unfold a64 lw; omega
theorem hi_step (S n : Int) : a64 (hiS S) (up n) (c64 (lw S) (IntKind.u64.wrap n) 0) = hiS (S + n) := by
  rw [u64_wrap]; unfold a64 hiS lw c64 up; omega
theorem c_bd (x y : Int) (hx : 0 ≤ x ∧ x ≤ 18446744073709551615) (hy : 0 ≤ y ∧ y ≤ 18446744073709551615) : 0 ≤ c64 x y 0 ∧ c64 x y 0 ≤ 1 := by unfold c64; omega
theorem wr_bd (n : Int) : 0 ≤ IntKind.u64.wrap n ∧ IntKind.u64.wrap n ≤ 18446744073709551615 := by rw [u64_wrap]; exact lw_bd n
/-- The sum of a list. -/
def sm : List Int → Int
  | [] => 0
  | n :: l => n + sm l
theorem sm_snoc (l : List Int) (n : Int) : sm (l ++ [n]) = sm l + n := by
  induction l with
  | nil => simp [sm]
  | cons m l ih => simp only [List.cons_append, sm, ih]; omega
theorem sm_take (zs : List Int) (k : Nat) (h : k < zs.length) : sm (zs.take (k + 1)) = sm (zs.take k) + zs.getD k 0 := by
  rw [List.take_succ_eq_append_getElem h, sm_snoc]; simp [List.getD, h]
theorem sm_bd (l : List Int) (h : ∀ n, n ∈ l → I64 n) : -9223372036854775808 * (l.length : Int) ≤ sm l ∧ sm l ≤ 9223372036854775807 * (l.length : Int) := by
  induction l with
  | nil => simp [sm]
  | cons n l ih =>
    have h1 := ih fun m hm => h m (by simp [hm])
    have h2 := h n (by simp)
    unfold I64 at h2
    rw [List.length_cons]
    unfold sm
    omega
end Go.Proofs.Ytpfhkmppbochnaa
/- Plain arithmetic on rows of numbers, no program: why a stable sort by insertion and by symmetric merges orders a row by key downwards, and by the number upwards where keys are alike. -/
namespace Go.Proofs.Ytpfhkmppbochnaa
namespace St
variable {key : Int → Int}

/-- Ahead: of the greater key; of two alike the smaller number. -/
def lt (key : Int → Int) (x y : Int) : Prop := key y < key x ∨ (key x = key y ∧ x < y)
theorem lt_trans {x y z : Int} (h : lt key x y) (k : lt key y z) : lt key x z := by unfold lt at *; omega
theorem lt_chain {x y z t : Int} (h : x = y ∨ lt key x y) (k : lt key y z) (l : z = t ∨ lt key z t) : lt key x t := by unfold lt at *; rcases h with rfl | h <;> rcases l with rfl | l <;> omega

/-- In order from a to b; what stands there; two rows of which the one's numbers are below the other's; a row of which a part was put in order. -/
def So (key : Int → Int) (f : Nat → Int) (a b : Nat) : Prop := ∀ p q, a ≤ p → p < q → q < b → lt key (f p) (f q)
def Im (f : Nat → Int) (a b : Nat) (v : Int) : Prop := ∃ k, a ≤ k ∧ k < b ∧ f k = v
def Cr (f : Nat → Int) (a m b : Nat) : Prop := ∀ p q, a ≤ p → p < m → m ≤ q → q < b → f p < f q
def Mg (key : Int → Int) (f h : Nat → Int) (a b : Nat) : Prop := (∀ k, k < a ∨ b ≤ k → h k = f k) ∧ (∀ v, Im h a b v ↔ Im f a b v) ∧ So key h a b

theorem lt_yes {x y : Int} (k : key x < key y) : lt key y x := Or.inl k
theorem lt_no {x y : Int} (h : x < y) (k : ¬ key x < key y) : lt key x y := by unfold lt; omega
theorem So.le {f : Nat → Int} {a b p q : Nat} (h : So key f a b) (hp : a ≤ p) (hpq : p ≤ q) (hq : q < b) : f p = f q ∨ lt key (f p) (f q) := by
  rcases Nat.eq_or_lt_of_le hpq with e | l
  · exact .inl (by rw [e])
  · exact .inr (h p q hp l hq)
theorem So.join {h : Nat → Int} {a m b : Nat} (h1 : So key h a m) (h2 : So key h m b) (j : a < m → m < b → lt key (h (m - 1)) (h m)) : So key h a b := by
  intro p q hp hpq hq
  by_cases c1 : q < m
  · exact h1 p q hp hpq c1
  · by_cases c2 : m ≤ p
    · exact h2 p q c2 hpq hq
    · exact lt_chain (h1.le hp (by omega) (by omega)) (j (by omega) (by omega)) (h2.le (Nat.le_refl _) (by omega) hq)
theorem So.part {f : Nat → Int} {a b c d : Nat} (h : So key f a b) (hc : a ≤ c) (hd : d ≤ b) : So key f c d := fun p q hp hpq hq => h p q (by omega) hpq (by omega)
theorem So.like {f g : Nat → Int} {a b : Nat} (h : So key f a b) (e : ∀ k, a ≤ k → k < b → g k = f k) : So key g a b := fun p q hp hpq hq => by
  rw [e p hp (by omega), e q (by omega) hq]; exact h p q hp hpq hq
theorem So.one (f : Nat → Int) {a b : Nat} (h : b ≤ a + 1) : So key f a b := fun p q hp hpq hq => by omega
theorem Im.like {f g : Nat → Int} {a b : Nat} {v : Int} (e : ∀ k, a ≤ k → k < b → g k = f k) : Im g a b v ↔ Im f a b v :=
  ⟨fun ⟨k, h1, h2, h3⟩ => ⟨k, h1, h2, by rw [← e k h1 h2]; exact h3⟩, fun ⟨k, h1, h2, h3⟩ => ⟨k, h1, h2, by rw [e k h1 h2]; exact h3⟩⟩
theorem Im.split {f : Nat → Int} {a m b : Nat} {v : Int} (h1 : a ≤ m) (h2 : m ≤ b) : Im f a b v ↔ Im f a m v ∨ Im f m b v :=
  ⟨fun ⟨k, l1, l2, l3⟩ => if h : k < m then .inl ⟨k, l1, h, l3⟩ else .inr ⟨k, by omega, l2, l3⟩,
   fun h => by
    rcases h with ⟨k, l1, l2, l3⟩ | ⟨k, l1, l2, l3⟩
    · exact ⟨k, l1, by omega, l3⟩
    · exact ⟨k, by omega, l2, l3⟩⟩
theorem Mg.self {f : Nat → Int} {a b : Nat} (h : So key f a b) : Mg key f f a b := ⟨fun _ _ => rfl, fun _ => Iff.rfl, h⟩

/-- The two parts from a to m and from m to b change places. -/
def rot (a m b : Nat) (f : Nat → Int) : Nat → Int := fun k => if a ≤ k ∧ k < b then (if k < a + (b - m) then f (k + (m - a)) else f (k - (b - m))) else f k
/-- n places from a on change with as many from b on. -/
def swr (a b n : Nat) (f : Nat → Int) : Nat → Int := fun k => if a ≤ k ∧ k < a + n then f (k - a + b) else if b ≤ k ∧ k < b + n then f (k - b + a) else f k

theorem rot_left {a m b k : Nat} {f : Nat → Int} (h : a ≤ k) (h' : k < a + (b - m)) (hm : a ≤ m) (hb : m ≤ b) : rot a m b f k = f (k + (m - a)) := by
  unfold rot; rw [if_pos ⟨h, by omega⟩, if_pos h']
theorem rot_right {a m b k : Nat} {f : Nat → Int} (h : a + (b - m) ≤ k) (h' : k < b) : rot a m b f k = f (k - (b - m)) := by
  unfold rot; rw [if_pos ⟨by omega, h'⟩, if_neg (by omega)]
theorem rot_out {a m b k : Nat} {f : Nat → Int} (h : k < a ∨ b ≤ k) : rot a m b f k = f k := by unfold rot; rw [if_neg (by omega)]
theorem rot_none1 (a b : Nat) (f : Nat → Int) (h : a ≤ b) : rot a a b f = f := by
  funext k
  by_cases h1 : a ≤ k ∧ k < b
  · rw [rot_left h1.1 (by omega) (Nat.le_refl _) h]; congr 1; omega
  · exact rot_out (by omega)
theorem rot_none2 (a b : Nat) (f : Nat → Int) : rot a b b f = f := by
  funext k
  by_cases h1 : a ≤ k ∧ k < b
  · rw [rot_right (by omega) h1.2]; congr 1; omega
  · exact rot_out (by omega)
/-- A rotation by exchanges of ranges: the shorter part goes to its place. -/
theorem rot_more {m i j : Nat} (f : Nat → Int) (hi : i ≤ m) (h : j < i) : rot (m - (i - j)) m (m + j) (swr (m - i) m j f) = rot (m - i) m (m + j) f := by
  funext k
  unfold rot swr
  by_cases h1 : m - i ≤ k ∧ k < m + j
  · rw [if_pos h1]
    by_cases h2 : k < m - i + (m + j - m)
    · rw [if_pos h2, if_neg (by omega), if_pos (by omega)]; congr 1; omega
    · rw [if_neg h2, if_pos (by omega)]
      by_cases h3 : k < m - (i - j) + (m + j - m)
      · rw [if_pos h3]
        by_cases h4 : k + (m - (m - (i - j))) < m
        · omega
        · rw [if_neg (by omega), if_pos (by omega)]; congr 1; omega
      · rw [if_neg h3, if_neg (by omega), if_neg (by omega)]
  · rw [if_neg h1, if_neg (by omega), if_neg (by omega), if_neg (by omega)]
theorem rot_less {m i j : Nat} (f : Nat → Int) (hi : i ≤ m) (h : i < j) : rot (m - i) m (m + (j - i)) (swr (m - i) (m + j - i) i f) = rot (m - i) m (m + j) f := by
  funext k
  unfold rot swr
  by_cases h1 : m - i ≤ k ∧ k < m + j
  · rw [if_pos h1]
    by_cases h2 : k < m - i + (m + j - m)
    · rw [if_pos h2]
      by_cases h3 : k < m + (j - i)
      · rw [if_pos ⟨h1.1, h3⟩]
        by_cases h4 : k < m - i + (m + (j - i) - m)
        · rw [if_pos h4, if_neg (by omega), if_neg (by omega)]
        · rw [if_neg h4, if_pos (by omega)]; congr 1; omega
      · omega
    · rw [if_neg h2]
      by_cases h3 : k < m + (j - i)
      · omega
      · rw [if_neg (by omega), if_neg (by omega), if_pos (by omega)]; congr 1; omega
  · rw [if_neg h1, if_neg (by omega), if_neg (by omega), if_neg (by omega)]
theorem rot_same {m i : Nat} (f : Nat → Int) (hi : i ≤ m) : swr (m - i) m i f = rot (m - i) m (m + i) f := by
  funext k
  unfold rot swr
  by_cases h1 : m - i ≤ k ∧ k < m + i
  · rw [if_pos h1]
    by_cases h2 : k < m
    · rw [if_pos (by omega), if_pos (by omega)]; congr 1; omega
    · rw [if_neg (by omega), if_pos (by omega), if_neg (by omega)]; congr 1; omega
  · rw [if_neg h1, if_neg (by omega), if_neg (by omega)]

/-- Parts of a rotated row. -/
theorem so_rot2 {f : Nat → Int} {s m e : Nat} (h : So key f m e) (h1 : s ≤ m) (h2 : m ≤ e) : So key (rot s m e f) s (s + (e - m)) := fun p q hp hpq hq => by
  rw [rot_left hp (by omega) h1 h2, rot_left (by omega) hq h1 h2]; exact h _ _ (by omega) (by omega) (by omega)
theorem so_rot3 {f : Nat → Int} {s m e : Nat} (h : So key f s m) (h2 : m ≤ e) : So key (rot s m e f) (s + (e - m)) e := fun p q hp hpq hq => by
  rw [rot_right hp (by omega), rot_right (by omega) hq]; exact h _ _ (by omega) (by omega) (by omega)
theorem im_rot2 {f : Nat → Int} {s m e : Nat} {v : Int} (h1 : s ≤ m) (h2 : m ≤ e) : Im (rot s m e f) s (s + (e - m)) v ↔ Im f m e v :=
  ⟨fun ⟨k, l1, l2, l3⟩ => ⟨k + (m - s), by omega, by omega, by rw [← l3, rot_left l1 l2 h1 h2]⟩,
   fun ⟨k, l1, l2, l3⟩ => ⟨k - (m - s), by omega, by omega, by rw [← l3, rot_left (by omega) (by omega) h1 h2]; congr 1; omega⟩⟩
theorem im_rot3 {f : Nat → Int} {s m e : Nat} {v : Int} (h2 : m ≤ e) : Im (rot s m e f) (s + (e - m)) e v ↔ Im f s m v :=
  ⟨fun ⟨k, l1, l2, l3⟩ => ⟨k - (e - m), by omega, by omega, by rw [← l3, rot_right l1 l2]⟩,
   fun ⟨k, l1, l2, l3⟩ => ⟨k + (e - m), by omega, by omega, by rw [← l3, rot_right (by omega) (by omega)]; congr 1; omega⟩⟩

/-- What a rotation leaves on the left stands ahead of what it leaves on the right. -/
theorem cross {f : Nat → Int} {a s m e b : Nat} (h1 : a ≤ s) (h2 : s ≤ m) (h3 : m ≤ e) (h4 : e ≤ b)
    (H1 : a < s → e < b → lt key (f (s - 1)) (f e)) (H2 : m < e → s < m → lt key (f (e - 1)) (f s)) (S1 : So key f a m) (S2 : So key f m b)
    {x y : Int} (hx : Im (rot s m e f) a (s + (e - m)) x) (hy : Im (rot s m e f) (s + (e - m)) b y) : lt key x y := by
  rw [Im.split (m := s) h1 (by omega), im_rot2 h2 h3, Im.like (f := f) (fun k _ h => rot_out (.inl h))] at hx
  rw [Im.split (m := e) (by omega) h4, im_rot3 h3, Im.like (f := f) (a := e) (fun k h _ => rot_out (.inr h))] at hy
  rcases hx with ⟨p, p1, p2, rfl⟩ | ⟨p, p1, p2, rfl⟩ <;> rcases hy with ⟨q, q1, q2, rfl⟩ | ⟨q, q1, q2, rfl⟩
  · exact S1 p q p1 (by omega) q2
  · exact lt_chain (S1.le p1 (by omega) (by omega)) (H1 (by omega) (by omega)) (S2.le h3 q1 q2)
  · exact lt_chain (S2.le p1 (by omega) (by omega)) (H2 (by omega) (by omega)) (S1.le h1 q1 q2)
  · exact S2 p q p1 (by omega) q2

/-- One step of a symmetric merge: a rotation, then each half for itself. -/
theorem merged {f g h : Nat → Int} {a s m e b : Nat} (h1 : a ≤ s) (h2 : s ≤ m) (h3 : m ≤ e) (h4 : e ≤ b)
    (H1 : a < s → e < b → lt key (f (s - 1)) (f e)) (H2 : m < e → s < m → lt key (f (e - 1)) (f s)) (S1 : So key f a m) (S2 : So key f m b)
    (L : Mg key (rot s m e f) g a (s + (e - m))) (R : Mg key g h (s + (e - m)) b) : Mg key f h a b := by
  have X := fun x y => cross h1 h2 h3 h4 H1 H2 S1 S2 (x := x) (y := y)
  have i1 : ∀ v, Im h a (s + (e - m)) v ↔ Im (rot s m e f) a (s + (e - m)) v := fun v =>
    (Im.like (fun k _ k2 => R.1 k (.inl k2))).trans (L.2.1 v)
  have i2 : ∀ v, Im h (s + (e - m)) b v ↔ Im (rot s m e f) (s + (e - m)) b v := fun v =>
    (R.2.1 v).trans (Im.like fun k k1 _ => L.1 k (.inr k1))
  refine ⟨fun k hk => ?_, fun v => ?_, ?_⟩
  · rw [R.1 k (by omega), L.1 k (by omega), rot_out (by omega)]
  · have e1 : Im f a b v ↔ (Im f a s v ∨ Im f s m v) ∨ (Im f m e v ∨ Im f e b v) :=
      (Im.split (by omega) (by omega)).trans (or_congr (Im.split h1 h2) (Im.split h3 h4))
    have e2 : Im (rot s m e f) a (s + (e - m)) v ↔ Im f a s v ∨ Im f m e v :=
      (Im.split h1 (by omega)).trans (or_congr (Im.like fun k _ h => rot_out (.inl h)) (im_rot2 h2 h3))
    have e3 : Im (rot s m e f) (s + (e - m)) b v ↔ Im f s m v ∨ Im f e b v :=
      (Im.split (by omega) h4).trans (or_congr (im_rot3 h3) (Im.like fun k h _ => rot_out (.inr h)))
    rw [Im.split (f := h) (m := s + (e - m)) (by omega) (by omega), i1, i2, e1, e2, e3]
    constructor
    · rintro ((h | h) | (h | h)) <;> simp [h]
    · rintro ((h | h) | (h | h)) <;> simp [h]
  · have l : So key h a (s + (e - m)) := L.2.2.like fun k _ k2 => R.1 k (.inl k2)
    exact l.join R.2.2 fun ha hb => X _ _ ((i1 _).1 ⟨_, by omega, by omega, rfl⟩) ((i2 _).1 ⟨_, by omega, by omega, rfl⟩)

/-- One element from the left goes to its place. -/
theorem first_in {f : Nat → Int} {a i b : Nat} (h1 : a + 1 ≤ i) (h2 : i ≤ b) (H1 : i < b → lt key (f a) (f i)) (H2 : a + 1 < i → lt key (f (i - 1)) (f a)) (S : So key f (a + 1) b) :
    Mg key f (rot a (a + 1) i f) a b := by
  refine merged (s := a) (m := a + 1) (e := i) (Nat.le_refl _) (by omega) h1 h2 (fun h => by omega) (fun h _ => H2 h) (So.one f (by omega)) S (Mg.self ?_) (Mg.self ?_)
  · exact so_rot2 (S.part (Nat.le_refl _) h2) (by omega) h1
  · refine So.join (m := i) (so_rot3 (So.one f (by omega)) h1) ((S.part h1 (Nat.le_refl _)).like fun k k1 _ => rot_out (.inr k1)) fun ha hb => ?_
    rw [rot_right (by omega) (by omega), rot_out (.inr (Nat.le_refl _))]
    have := H1 hb
    rwa [show i - 1 - (i - (a + 1)) = a by omega]
/-- One element from the right goes to its place. -/
theorem last_in {f : Nat → Int} {a i m : Nat} (h1 : a ≤ i) (h2 : i ≤ m) (H1 : a < i → lt key (f (i - 1)) (f m)) (H2 : i < m → lt key (f m) (f i)) (S : So key f a m) :
    Mg key f (rot i m (m + 1) f) a (m + 1) := by
  refine merged (s := i) (m := m) (e := m + 1) h1 h2 (by omega) (Nat.le_refl _) (fun _ h => by omega) (fun _ h => ?_) S (So.one f (by omega)) (Mg.self ?_) (Mg.self ?_)
  · rw [show m + 1 - 1 = m by omega]; exact H2 h
  · refine So.join (m := i) ((S.part (Nat.le_refl _) h2).like fun k _ k2 => rot_out (.inl k2)) (so_rot2 (So.one f (by omega)) h2 (by omega)) fun ha hb => ?_
    rw [rot_out (.inl (by omega)), rot_left (Nat.le_refl _) (by omega) h2 (by omega)]
    have := H1 ha
    rwa [show i + (m - i) = m by omega]
  · exact so_rot3 (S.part h1 (Nat.le_refl _)) (by omega)

/-- An exchange of two places. -/
def sw (i j : Nat) (f : Nat → Int) : Nat → Int := fun k => if k = j then f i else if k = i then f j else f k
theorem sw_down {f : Nat → Int} {k m : Nat} (h : k + 1 ≤ m) : sw (k + 1) k (rot (k + 1) m (m + 1) f) = rot k m (m + 1) f := by
  funext t
  unfold sw rot
  by_cases h1 : t = k
  · subst h1
    rw [if_pos rfl, if_pos (by omega), if_pos (by omega), if_pos (by omega), if_pos (by omega)]; congr 1; omega
  · rw [if_neg h1]
    by_cases h2 : t = k + 1
    · subst h2
      rw [if_pos rfl, if_neg (by omega), if_pos (by omega), if_neg (by omega)]; congr 1; omega
    · rw [if_neg h2]
      by_cases h3 : k + 1 ≤ t ∧ t < m + 1
      · rw [if_pos h3, if_neg (by omega), if_pos (by omega), if_neg (by omega)]
      · rw [if_neg h3, if_neg (by omega)]
theorem sw_up {f : Nat → Int} {a k : Nat} (h : a ≤ k) : sw k (k + 1) (rot a (a + 1) (k + 1) f) = rot a (a + 1) (k + 2) f := by
  funext t
  unfold sw rot
  by_cases h1 : t = k + 1
  · subst h1
    rw [if_pos rfl, if_pos (by omega), if_neg (by omega), if_pos (by omega), if_neg (by omega)]; congr 1; omega
  · rw [if_neg h1]
    by_cases h2 : t = k
    · subst h2
      rw [if_pos rfl, if_neg (by omega), if_pos (by omega), if_pos (by omega)]; congr 1; omega
    · rw [if_neg h2]
      by_cases h3 : a ≤ t ∧ t < k + 1
      · rw [if_pos h3, if_pos (by omega), if_pos (by omega), if_pos (by omega)]
      · rw [if_neg h3, if_neg (by omega)]
theorem sw_range {f : Nat → Int} {a b i : Nat} (h : a + i < b) : sw (a + i) (b + i) (swr a b i f) = swr a b (i + 1) f := by
  funext t
  unfold sw swr
  by_cases h1 : t = b + i
  · subst h1
    rw [if_pos rfl, if_neg (by omega), if_neg (by omega), if_neg (by omega), if_pos (by omega)]; congr 1; omega
  · rw [if_neg h1]
    by_cases h2 : t = a + i
    · subst h2
      rw [if_pos rfl, if_neg (by omega), if_neg (by omega), if_pos (by omega)]; congr 1; omega
    · rw [if_neg h2]
      by_cases h3 : a ≤ t ∧ t < a + i
      · rw [if_pos h3, if_pos (by omega)]
      · rw [if_neg h3]
        by_cases h4 : b ≤ t ∧ t < b + i
        · rw [if_pos h4, if_neg (by omega), if_pos (by omega)]
        · rw [if_neg h4, if_neg (by omega), if_neg (by omega)]
theorem swr_none (a b : Nat) (f : Nat → Int) : swr a b 0 f = f := by
  funext t
  unfold swr
  rw [if_neg (by omega), if_neg (by omega)]

/-- A run that holds its own numbers, in order; all of a row in runs; the runs that are done. -/
def Rn (key : Int → Int) (f : Nat → Int) (s e : Nat) : Prop := So key f s e ∧ ∀ v, Im f s e v ↔ (s : Int) ≤ v ∧ v < e
theorem Rn.like {f g : Nat → Int} {s e : Nat} (h : Rn key f s e) (k : ∀ t, s ≤ t → t < e → g t = f t) : Rn key g s e := ⟨h.1.like k, fun v => (Im.like k).trans (h.2 v)⟩
theorem Rn.cr {f : Nat → Int} {s m e : Nat} (h : Rn key f s m) (k : Rn key f m e) : Cr f s m e := fun p q h1 h2 h3 h4 => by
  have := (h.2 (f p)).1 ⟨p, h1, h2, rfl⟩
  have := (k.2 (f q)).1 ⟨q, h3, h4, rfl⟩
  omega
theorem Rn.merged {f g : Nat → Int} {s m e : Nat} (h : Rn key f s m) (k : Rn key f m e) (h1 : s ≤ m) (h2 : m ≤ e) (M : Mg key f g s e) : Rn key g s e :=
  ⟨M.2.2, fun v => by rw [M.2.1 v, Im.split h1 h2, h.2 v, k.2 v]; omega⟩
theorem Rn.ins {f g : Nat → Int} {s e : Nat} (h : ∀ t, s ≤ t → t < e → f t = t) (M : Mg key f g s e) : Rn key g s e :=
  ⟨M.2.2, fun v => by
    rw [M.2.1 v]
    constructor
    · rintro ⟨k, h1, h2, rfl⟩
      rw [h k h1 h2]; omega
    · intro hv
      exact ⟨v.toNat, by omega, by omega, by rw [h _ (by omega) (by omega)]; omega⟩⟩
/-- From s on to n in runs of bs, at most c of them. -/
def Rs (key : Int → Int) (f : Nat → Int) (bs n : Nat) : Nat → Nat → Prop
  | 0, s => n ≤ s
  | c + 1, s => n ≤ s ∨ (Rn key f s (min (s + bs) n) ∧ Rs key f bs n c (s + bs))
/-- The first c runs of bs. -/
def Rp (key : Int → Int) (f : Nat → Int) (bs : Nat) (c : Nat) : Prop := ∀ k, k < c → Rn key f (k * bs) (k * bs + bs)
theorem Rs.like {f g : Nat → Int} {bs n : Nat} : ∀ {c s : Nat}, Rs key f bs n c s → (∀ t, s ≤ t → g t = f t) → Rs key g bs n c s
  | 0, _, h, _ => h
  | c + 1, s, h, k => by
    rcases h with h | ⟨h1, h2⟩
    · exact .inl h
    · exact .inr ⟨h1.like fun t t1 _ => k t t1, h2.like fun t t1 => k t (by omega)⟩
theorem Rs.more {f : Nat → Int} {bs n : Nat} : ∀ {c s : Nat}, Rs key f bs n c s → Rs key f bs n (c + 1) s
  | 0, _, h => .inl h
  | _ + 1, _, h => by
    rcases h with h | ⟨h1, h2⟩
    · exact .inl h
    · exact .inr ⟨h1, h2.more⟩
theorem Rp.like {f g : Nat → Int} {bs c : Nat} (h : Rp key f bs c) (k : ∀ t, t < c * bs → g t = f t) : Rp key g bs c := fun i hi =>
  (h i hi).like fun t _ t2 => k t (by
    have := Nat.mul_le_mul_right bs (show i + 1 ≤ c by omega)
    rw [Nat.add_mul] at this
    omega)
theorem Rp.snoc {f : Nat → Int} {bs c : Nat} (h : Rp key f bs c) (k : Rn key f (c * bs) (c * bs + bs)) : Rp key f bs (c + 1) := fun i hi => by
  rcases Nat.lt_succ_iff_lt_or_eq.1 hi with h1 | rfl
  · exact h i h1
  · exact k
/-- The runs that are done, and what is behind them, are all. -/
theorem Rp.all {f : Nat → Int} {bs n d : Nat} : ∀ {c : Nat}, Rp key f bs c → Rs key f bs n d (c * bs) → c * bs ≤ n → Rs key f bs n (d + c) 0
  | 0, _, h, _ => by rw [Nat.zero_mul] at h; exact h
  | c + 1, h, k, hn => by
    have e : (c + 1) * bs = c * bs + bs := by rw [Nat.add_mul, Nat.one_mul]
    have k' : Rs key f bs n (d + 1) (c * bs) := .inr ⟨by rw [Nat.min_eq_left (by omega)]; exact h c (Nat.lt_succ_self c), by rw [← e]; exact k⟩
    have := Rp.all (d := d + 1) (fun i hi => h i (Nat.lt_succ_of_lt hi)) k' (by omega)
    rwa [show d + (c + 1) = d + 1 + c by omega]
/-- The runs that a rotation leaves, on the left and on the right. -/
theorem so_rot1 {f : Nat → Int} {a s m e : Nat} (h : So key f a m) (h2 : s ≤ m) : So key (rot s m e f) a s := (h.part (Nat.le_refl _) h2).like fun _ _ k => rot_out (.inl k)
theorem so_rot4 {f : Nat → Int} {s m e b : Nat} (h : So key f m b) (h2 : m ≤ e) : So key (rot s m e f) e b := (h.part h2 (Nat.le_refl _)).like fun _ k _ => rot_out (.inr k)
theorem cr_left {f : Nat → Int} {a s m e b : Nat} (h : Cr f a m b) (h2 : s ≤ m) (h3 : m ≤ e) (h4 : e ≤ b) : Cr (rot s m e f) a s (s + (e - m)) := fun p q hp hp' hq hq' => by
  rw [rot_out (.inl hp'), rot_left hq hq' h2 h3]
  exact h _ _ hp (by omega) (by omega) (by omega)
theorem cr_right {f : Nat → Int} {a s m e b : Nat} (h : Cr f a m b) (h1 : a ≤ s) (h3 : m ≤ e) : Cr (rot s m e f) (s + (e - m)) e b := fun p q hp hp' hq hq' => by
  rw [rot_out (.inr hq), rot_right hp hp']
  exact h _ _ (by omega) (by omega) (by omega) hq'
theorem Cr.like {f g : Nat → Int} {a m b : Nat} (h : Cr f a m b) (e : ∀ k, a ≤ k → k < b → g k = f k) : Cr g a m b := fun p q hp hp' hq hq' => by
  rw [e p hp (by omega), e q (by omega) hq']
  exact h p q hp hp' hq hq'
theorem Mg.none {f : Nat → Int} {a s b : Nat} (h1 : So key f a s) (h2 : So key f s b) (l1 : a ≤ s) (l2 : s ≤ b) (h : ¬ (a < s ∧ s < b)) : Mg key f f a b := by
  refine Mg.self ?_
  rcases Nat.eq_or_lt_of_le l1 with rfl | h3
  · exact h2
  · have : s = b := by omega
    subst this
    exact h1
end St
end Go.Proofs.Ytpfhkmppbochnaa
/- Contracts of the exchanges and rotations inside slices.SortStableFunc, over a row of places: each leaves the row as plain arithmetic says, and all other memory as it was. Conditions: the ranges lie within the row and apart. -/
namespace Go.Proofs.Ytpfhkmppbochnaa
open Go.RowKit Go.Sort

/-- The row at blk, off holds f; all else is as in w, but for the draws. -/
def On (w : World) (blk off N : Nat) (f : Nat → Int) (W : World) : Prop := ∃ n d, d.size = N ∧ (fun t => (d : Array Int)[t]!) = f ∧ W = putRow (Value.int .i64) (Go.Sort.ahead w n) blk off d
/-- There is a row of N numbers. -/
def Ba (w : World) (blk off N : Nat) : Prop := ∃ d, (d : Array Int).size = N ∧ Holds (Value.int .i64) w blk off d

theorem On.cell {w W : World} {blk off N : Nat} {f : Nat → Int} (h : On w blk off N f W) (b : Ba w blk off N) : ∀ t, t < N → W.cell? ⟨blk, off + t, none⟩ = some (.int .i64 (f t)) := by
  obtain ⟨n, d, hd, rfl, rfl⟩ := h
  obtain ⟨d0, hs, hh⟩ := b
  exact fun t ht => cell?_putRow _ _ _ _ d0 d (holds_ahead _ _ _ _ _ _ hh) (by omega) t (by omega)
theorem On.froz {w W : World} {blk off N : Nat} {f : Nat → Int} (h : On w blk off N f W) (b : Ba w blk off N) : ∀ t, t < N → W.frozen? ⟨blk, off + t, none⟩ = false := by
  obtain ⟨n, d, hd, rfl, rfl⟩ := h
  obtain ⟨d0, hs, hh⟩ := b
  exact fun t ht => by rw [frozen?_putRow]; exact ((holds_ahead _ _ n _ _ _ hh) t (by omega)).2
theorem On.drewN {w W : World} {blk off N : Nat} {f : Nat → Int} (h : On w blk off N f W) (q : Nat) : On w blk off N f (W.drewN q) := by
  obtain ⟨n, d, hd, hf, rfl⟩ := h
  refine ⟨n + q, d, hd, hf, ?_⟩
  show Go.Sort.ahead (putRow (Value.int .i64) (Go.Sort.ahead w n) blk off d) q = _
  rw [putRow_ahead _ w n, ahead_ahead, ← putRow_ahead]
theorem fn_swp (d : Array Int) (i j : Nat) (hi : i < d.size) (hj : j < d.size) : (fun t => (swp d i j)[t]!) = St.sw i j (fun t => d[t]!) := by
  funext k
  unfold St.sw
  by_cases h1 : k = j
  · subst h1
    rw [if_pos rfl]
    exact swp_right d i k hj
  · rw [if_neg h1]
    by_cases h2 : k = i
    · subst h2
      rw [if_pos rfl]
      exact swp_left d k j hi h1
    · rw [if_neg h2]
      exact swp_other d i j k h2 h1
theorem On.swap {w W : World} {blk off N : Nat} {f : Nat → Int} (h : On w blk off N f W) {i j : Nat} (hi : i < N) (hj : j < N) :
    On w blk off N (St.sw i j f) ((W.setCell ⟨blk, off + i, none⟩ (.int .i64 (f j))).setCell ⟨blk, off + j, none⟩ (.int .i64 (f i))) := by
  obtain ⟨n, d, rfl, rfl, rfl⟩ := h
  exact ⟨n, swp d i j, size_swp d i j, fn_swp d i j hi hj, putRow_swp _ _ _ _ d i j hi hj⟩

set_option maxHeartbeats 1000000 in
theorem swap_any (w : World) (blk off N cap : Nat) (hB : Ba w blk off N) (hN : N < 4611686018427387904) (cv : Value) (a b n : Nat) (f : Nat → Int) (W : World) (hO : On w blk off N f W) (h1 : a + n ≤ b) (h2 : b + n ≤ N) :
    Calls Try.prog 50 #[.slice (some ⟨blk, off, none⟩) N cap, .int .i64 a, .int .i64 b, .int .i64 n, cv] W fun e w' => e = .returned (.tuple #[]) ∧ On w blk off N (St.swr a b n f) w' := by
  go_enter Try.func50, Try.ntmps50
  go_wp2
  go_loopw [10] (fun vi wr => ∃ i : Nat, vi = .int .i64 i ∧ i ≤ n ∧ On w blk off N (St.swr a b i f) wr) (fun vi _ => n - (intOf vi).toNat)
  case atStart => exact ⟨0, rfl, Nat.zero_le _, by rw [St.swr_none]; exact hO⟩
  case round =>
    obtain ⟨i, rfl, hi, hR⟩ := hrel
    have HO := Lib.hid hO
    clear hO
    by_cases hlt : i < n
    · have hc := hR.cell hB
      have hf := hR.froz hB
      obtain ⟨G, hG⟩ : ∃ G, G = St.swr a b i f := ⟨_, rfl⟩
      rw [← hG] at hc
      have S := Lib.hid (hR.swap (i := a + i) (j := b + i) (by omega) (by omega))
      clear hR
      go_wp2
      go_region
      all_goals go_wp2
      go_roundw
      case rel => exact ⟨i + 1, by go_num, by omega, by rw [← St.sw_range (by omega)]; exact S.out.drewN 1⟩
      case measure => simp [intOf]; omega
    · obtain rfl : i = n := by omega
      go_wp2
      go_end0
      exact ⟨rfl, hR⟩

theorem rot_stop {a m b i : Nat} {f g : Nat → Int} (h : St.rot (m - i) m (m + i) g = St.rot a m b f) (hi : i ≤ m) : St.swr (m - i) m i g = St.rot a m b f := by rw [St.rot_same g hi, h]
theorem rot_gt {a m b i j : Nat} {f g : Nat → Int} (h : St.rot (m - i) m (m + j) g = St.rot a m b f) (hi : i ≤ m) (hj : j < i) : St.rot (m - (i - j)) m (m + j) (St.swr (m - i) m j g) = St.rot a m b f := by rw [St.rot_more g hi hj, h]
theorem rot_lt {a m b i j : Nat} {f g : Nat → Int} (h : St.rot (m - i) m (m + j) g = St.rot a m b f) (hi : i ≤ m) (hj : i < j) : St.rot (m - i) m (m + (j - i)) (St.swr (m - i) (m + j - i) i g) = St.rot a m b f := by rw [St.rot_less g hi hj, h]

theorem swap_at (w : World) (blk off N cap : Nat) (hB : Ba w blk off N) (hN : N < 4611686018427387904) (cv : Value) (va vb vn : Int) (a b n : Nat) (ea : va = a) (eb : vb = b) (en : vn = n) (f : Nat → Int) (W : World) (hO : On w blk off N f W) (h1 : a + n ≤ b) (h2 : b + n ≤ N) :
    Calls Try.prog 50 #[.slice (some ⟨blk, off, none⟩) N cap, .int .i64 va, .int .i64 vb, .int .i64 vn, cv] W fun e w' => e = .returned (.tuple #[]) ∧ On w blk off N (St.swr a b n f) w' := by
  subst ea eb en
  exact swap_any w blk off N cap hB hN cv a b n f W hO h1 h2
set_option maxHeartbeats 1000000 in
theorem rotate_any (w : World) (blk off N cap : Nat) (hB : Ba w blk off N) (hN : N < 4611686018427387904) (cv : Value) (a m b : Nat) (f : Nat → Int) (W : World) (hO : On w blk off N f W) (h1 : a < m) (h2 : m < b) (h3 : b ≤ N) :
    Calls Try.prog 49 #[.slice (some ⟨blk, off, none⟩) N cap, .int .i64 a, .int .i64 m, .int .i64 b, cv] W fun e w' => e = .returned (.tuple #[]) ∧ On w blk off N (St.rot a m b f) w' := by
  go_enter Try.func49, Try.ntmps49
  go_wp2
  go_loopw [10, 11] (fun vi vj wr => ∃ (i j : Nat) (g : Nat → Int), vi = .int .i64 i ∧ vj = .int .i64 j ∧ 0 < i ∧ i ≤ m ∧ 0 < j ∧ m + j ≤ N ∧ On w blk off N g wr ∧ St.rot (m - i) m (m + j) g = St.rot a m b f) (fun vi vj _ => (intOf vi).toNat + (intOf vj).toNat)
  case atStart =>
    refine ⟨m - a, b - m, f, ?_, ?_, by omega, by omega, by omega, by omega, hO, ?_⟩
    · congr 1; omega
    · congr 1; omega
    · rw [show m - (m - a) = a by omega, show m + (b - m) = b by omega]
  case round =>
    obtain ⟨i, j, g, rfl, rfl, hi0, him, hj0, hjn, hR, hg⟩ := hrel
    have HG := Lib.hid hg
    clear hg hO
    rcases Nat.lt_trichotomy j i with hlt | hlt | hlt
    · have hne : i ≠ j := by omega
      go_wp2_with fail
      refine (swap_at w blk off N cap hB hN cv _ _ _ (m - i) m j (by omega) rfl rfl g _ hR (by omega) (by omega)).mono ?_; rintro e w1 ⟨rfl, hR1⟩
      go_wp2_with fail
      go_roundw
      case rel => exact ⟨i - j, j, _, by congr 1; omega, rfl, by omega, by omega, by omega, hjn, hR1, rot_gt HG.out him hlt⟩
      case measure => simp [intOf]; omega
    · subst hlt
      go_wp2_with fail
      refine (swap_at w blk off N cap hB hN cv _ _ _ (m - j) m j (by omega) rfl rfl g _ hR (by omega) (by omega)).mono ?_; rintro e w1 ⟨rfl, hR1⟩
      go_wp2_with fail
      go_end0
      refine ⟨rfl, ?_⟩
      rw [← rot_stop HG.out him]
      exact hR1
    · have hne : i ≠ j := by omega
      have hng : ¬ j < i := by omega
      go_wp2_with fail
      refine (swap_at w blk off N cap hB hN cv _ _ _ (m - i) (m + j - i) i (by omega) (by omega) rfl g _ hR (by omega) (by omega)).mono ?_; rintro e w1 ⟨rfl, hR1⟩
      go_wp2_with fail
      go_roundw
      case rel => exact ⟨i, j - i, _, rfl, by congr 1; omega, hi0, him, by omega, by omega, hR1, rot_lt HG.out him hlt⟩
      case measure => simp [intOf]; omega
end Go.Proofs.Ytpfhkmppbochnaa
/- The contract of the insertion sort inside slices.SortStableFunc, over a row of places, with a comparison that tells the order of their keys: it puts a part of the row in order. Conditions: the places rise in that part; the part lies within the row. -/
namespace Go.Proofs.Ytpfhkmppbochnaa
open Go.RowKit Go.Sort

/-- What the comparison tells of two places: the one of the greater key comes first. -/
def cm (key : Int → Int) (x y : Int) : Int := if key y < key x then -1 else if key x < key y then 1 else 0
theorem cm_lt {key : Int → Int} {x y : Int} : cm key x y < 0 ↔ key y < key x := by unfold cm; split <;> (try split) <;> omega
theorem cm_bd (key : Int → Int) (x y : Int) : -1 ≤ cm key x y ∧ cm key x y ≤ 1 := by unfold cm; split <;> (try split) <;> omega
/-- The comparison reads only, and tells the keys' order, wherever the row is. -/
def Cp (w : World) (blk off N : Nat) (key : Int → Int) (K : Nat) (q : Addr) : Prop := ∀ f W, On w blk off N f W → ∀ x y : Int, 0 ≤ x → x < K → 0 ≤ y → y < K →
  Calls Try.prog 40 #[.int .i64 x, .int .i64 y, .pointer (some q)] W fun e w' => e = .returned (.int .i64 (cm key x y)) ∧ ∃ m, w' = W.drewN m
/-- All places of the row are places of keys. -/
def Al (N K : Nat) (f : Nat → Int) : Prop := ∀ t, t < N → 0 ≤ f t ∧ f t < K
theorem Al.mg {N K : Nat} {key : Int → Int} {f g : Nat → Int} {a b : Nat} (h : Al N K f) (M : St.Mg key f g a b) (hb : b ≤ N) : Al N K g := fun t ht => by
  by_cases c : a ≤ t ∧ t < b
  · obtain ⟨k, k1, k2, k3⟩ := (M.2.1 (g t)).1 ⟨t, c.1, c.2, rfl⟩
    rw [← k3]; exact h k (by omega)
  · rw [M.1 t (by omega)]; exact h t ht
theorem Al.rot {N K : Nat} {f : Nat → Int} {a m b : Nat} (h : Al N K f) (h1 : a ≤ m) (h2 : m ≤ b) (hb : b ≤ N) : Al N K (St.rot a m b f) := fun t ht => by
  unfold St.rot
  split
  · split
    · exact h _ (by omega)
    · exact h _ (by omega)
  · exact h t ht
theorem cp_call {w : World} {blk off N K : Nat} {key : Int → Int} {q : Addr} (C : Cp w blk off N key K q) {f : Nat → Int} {W : World} (hO : On w blk off N f W) (hA : Al N K f) (n : Nat) {i j : Nat} (hi : i < N) (hj : j < N) {c : Int} (hc : cm key (f i) (f j) = c) :
    Calls Try.prog 40 #[.int .i64 (f i), .int .i64 (f j), .pointer (some q)] (W.drewN n) fun e w' => e = .returned (.int .i64 c) ∧ ∃ m, w' = W.drewN m := by
  refine Calls.quiet_of ?_
  rw [← hc]
  exact C f _ (hO.drewN n) _ _ (hA i hi).1 (hA i hi).2 (hA j hj).1 (hA j hj).2

theorem mg_step {key : Int → Int} {f g h : Nat → Int} {a i : Nat} (M : St.Mg key f g a i) (L : St.Mg key g h a (i + 1)) (hi : a ≤ i) : St.Mg key f h a (i + 1) := by
  refine ⟨fun k hk => by rw [L.1 k hk, M.1 k (by omega)], fun v => ?_, L.2.2⟩
  rw [L.2.1 v, St.Im.split hi (by omega), St.Im.split (f := f) (m := i) hi (by omega), M.2.1 v, St.Im.like (f := f) fun k k1 _ => M.1 k (.inr k1)]

set_option maxHeartbeats 1000000 in
theorem insert_any (w : World) (blk off N cap K : Nat) (hB : Ba w blk off N) (hN : N < 4611686018427387904) (key : Int → Int) (q : Addr) (C : Cp w blk off N key K q) (a b : Nat) (f : Nat → Int) (W : World) (hO : On w blk off N f W)
    (hA : Al N K f) (h1 : a ≤ b) (h2 : b ≤ N) (hinc : ∀ s t, a ≤ s → s < t → t < b → f s < f t) :
    Calls Try.prog 47 #[.slice (some ⟨blk, off, none⟩) N cap, .int .i64 a, .int .i64 b, .func (.func 40) #[] #[.pointer (some q)]] W fun e w' => e = .returned (.tuple #[]) ∧ ∃ g, On w blk off N g w' ∧ St.Mg key f g a b := by
  have HI := Lib.hid hinc
  clear hinc
  go_enter Try.func47, Try.ntmps47
  go_wp2
  go_loopw [8] (fun vi wr => ∃ (i : Nat) (g : Nat → Int), vi = .int .i64 i ∧ a < i ∧ i ≤ b + 1 ∧ On w blk off N g wr ∧ St.Mg key f g a i ∧ (b < i → g = f ∧ b ≤ a)) (fun vi _ => b + 1 - (intOf vi).toNat)
  case atStart => exact ⟨a + 1, f, by go_num, by omega, by omega, hO, St.Mg.self (St.So.one f (by omega)), fun _ => ⟨rfl, by omega⟩⟩
  case round =>
    obtain ⟨i, g, rfl, hai, hib, hR, hM, hE⟩ := hrel
    have HM := Lib.hid hM
    have HE := Lib.hid hE
    clear hM hE hO
    by_cases hlt : i < b
    · have hAg := Lib.hid (hA.mg HM.out (by omega))
      have hgi := Lib.hid (HM.out.1 i (.inr (Nat.le_refl _)))
      have hless : Hid (∀ t, a ≤ t → t < i → g t < g i) := Lib.hid fun t t1 t2 => by
        obtain ⟨k, k1, k2, k3⟩ := (HM.out.2.1 (g t)).1 ⟨t, t1, t2, rfl⟩
        rw [hgi.out, ← k3]
        exact HI.out k i k1 k2 hlt
      go_wp2
      go_loopw [9] (fun vj wr2 => ∃ j : Nat, vj = .int .i64 j ∧ a ≤ j ∧ j ≤ i ∧ On w blk off N (St.rot j i (i + 1) g) wr2 ∧ (j < i → St.lt key (g i) (g j))) (fun vj _ => (intOf vj).toNat)
      case atStart => exact ⟨i, rfl, by omega, Nat.le_refl _, by rw [St.rot_none1 _ _ _ (by omega)]; exact hR, fun h => absurd h (Nat.lt_irrefl _)⟩
      case round =>
        obtain ⟨j, rfl, haj, hji, hR2, hJ⟩ := hrel
        have hAr := hAg.out.rot (a := j) (m := i) (b := i + 1) hji (by omega) (by omega)
        obtain ⟨G, hG⟩ : ∃ G, St.rot j i (i + 1) g = G := ⟨_, rfl⟩
        have HJ := Lib.hid hJ
        have HG := Lib.hid hG
        rw [hG] at hR2 hAr
        clear hR hJ
        have hc := hR2.cell hB
        have hf := hR2.froz hB
        have OUT : Hid ((a < j → St.lt key (g (j - 1)) (g i)) → ∀ m, ∃ (i' : Nat) (g' : Nat → Int), Value.int .i64 ((i : Int) + 1) = .int .i64 (i' : Nat) ∧ a < i' ∧ i' ≤ b + 1 ∧ On w blk off N g' (wr.drewN m) ∧ St.Mg key f g' a i' ∧ (b < i' → g' = f ∧ b ≤ a)) :=
          Lib.hid fun hl m => ⟨i + 1, G, by go_num, by omega, by omega, hR2.drewN m, by
            rw [← HG.out]
            exact mg_step HM.out (St.last_in haj hji hl HJ.out HM.out.2.2) (by omega), fun h => by omega⟩
        clear hG
        by_cases hja : a < j
        · have e1 := Lib.hid (show G j = g i by rw [← HG.out, St.rot_left (Nat.le_refl _) (by omega) hji (by omega)]; congr 1; omega)
          have e2 := Lib.hid (show G (j - 1) = g (j - 1) by rw [← HG.out]; exact St.rot_out (.inl (by omega)))
          obtain ⟨c, hcm⟩ : ∃ c, cm key (G j) (G (j - 1)) = c := ⟨_, rfl⟩
          have hcb := cm_bd key (G j) (G (j - 1))
          have CC := Lib.hid fun n => cp_call C hR2 hAr n (i := j) (j := j - 1) (by omega) (by omega) hcm
          have LT := Lib.hid (cm_lt (key := key) (x := G j) (y := G (j - 1)))
          rw [hcm] at hcb LT
          clear hcm
          cases hk : decide (c < 0)
          · have hl : a < j → St.lt key (g (j - 1)) (g i) := fun _ => by
              have h3 := hless.out (j - 1) (by omega) (by omega)
              refine St.lt_no h3 fun h4 => ?_
              rw [e1.out, e2.out] at LT
              have := LT.out.2 h4
              simp at hk
              omega
            have O2 := Lib.hid (OUT.out hl)
            clear OUT hl
            go_wp2
            go_quiet (first | (go_at_call 40; exact CC.out _))
            go_wp2
            go_roundw
            case rel => exact O2.out nq
            case measure => simp [intOf]; omega
          · have hl : St.lt key (g i) (g (j - 1)) := by
              rw [e1.out, e2.out] at LT
              exact St.lt_yes (LT.out.1 (of_decide_eq_true hk))
            have S := Lib.hid fun m => (hR2.drewN m).swap (i := j) (j := j - 1) (by omega) (by omega)
            have HL := Lib.hid hl
            clear OUT hl
            go_wp2
            go_quiet (first | (go_at_call 40; exact CC.out _))
            go_wp2
            go_region
            all_goals go_wp2
            have E := Lib.hid (St.sw_down (f := g) (k := j - 1) (m := i) (by omega))
            rw [show j - 1 + 1 = j by omega, HG.out] at E
            go_roundw
            case rel => exact ⟨j - 1, by congr 1; omega, by omega, by omega, by rw [← E.out]; exact S.out _, fun _ => HL.out⟩
            case measure => simp [intOf]; omega
        · have O2 := Lib.hid (OUT.out fun h => absurd h hja)
          go_wp2
          go_quiet (first | (go_at_call 40; fail))
          go_wp2
          go_roundw
          case rel => exact O2.out nq
          case measure => simp [intOf]; omega
    · go_wp2
      go_end0
      refine ⟨rfl, g, hR, ?_⟩
      rcases Nat.eq_or_lt_of_le (show b ≤ i by omega) with rfl | h
      · exact HM.out
      · obtain ⟨e, k⟩ := HE.out h
        rw [e]; exact St.Mg.self (St.So.one f (by omega))
end Go.Proofs.Ytpfhkmppbochnaa
/- Contracts of the symmetric merge inside slices.SortStableFunc, where one of the two runs is one element: it goes to its place. Conditions: both runs are in order and lie within the row, the right one's numbers above the left one's. -/
namespace Go.Proofs.Ytpfhkmppbochnaa
open Go.RowKit Go.Sort

set_option maxRecDepth 100000 in
set_option maxHeartbeats 1000000 in
theorem sym_first (w : World) (blk off N cap K : Nat) (hB : Ba w blk off N) (hN : N < 4611686018427387904) (key : Int → Int) (q : Addr) (C : Cp w blk off N key K q) (a b : Nat) (f : Nat → Int) (W : World) (hO : On w blk off N f W)
    (hA : Al N K f) (h1 : a + 1 < b) (h2 : b ≤ N) (hS : St.So key f (a + 1) b) (hC : St.Cr f a (a + 1) b) (vm : Int) (hm : vm = a + 1) :
    Calls Try.prog 48 #[.slice (some ⟨blk, off, none⟩) N cap, .int .i64 a, .int .i64 vm, .int .i64 b, .func (.func 40) #[] #[.pointer (some q)]] W fun e w' => e = .returned (.tuple #[]) ∧ ∃ g, On w blk off N g w' ∧ St.Mg key f g a b := by
  have HS := Lib.hid hS
  have HC := Lib.hid hC
  clear hS hC
  go_enter Try.func48, Try.ntmps48
  go_wp2
  go_loopw [10, 11] (fun vi vj wr => ∃ i j : Nat, vi = .int .i64 i ∧ vj = .int .i64 j ∧ a + 1 ≤ i ∧ i ≤ j ∧ j ≤ b ∧ On w blk off N f wr ∧ (a + 1 < i → St.lt key (f (i - 1)) (f a)) ∧ (j < b → St.lt key (f a) (f j))) (fun vi vj _ => (intOf vj).toNat - (intOf vi).toNat)
  case atStart => exact ⟨a + 1, b, by go_num, rfl, by omega, by omega, by omega, hO, fun h => absurd h (Nat.lt_irrefl _), fun h => absurd h (Nat.lt_irrefl _)⟩
  case round =>
    obtain ⟨i, j, rfl, rfl, hai, hij, hjb, hR, hi, hj⟩ := hrel
    clear hO
    by_cases hlt : i < j
    · obtain ⟨h, hh⟩ : ∃ h : Nat, ((i : Int) + j) / 2 = h := ⟨(i + j) / 2, by omega⟩
      have l1 : i ≤ h := by omega
      have l2 : h < j := by omega
      have hc := hR.cell hB
      obtain ⟨c, hcm⟩ : ∃ c, cm key (f h) (f a) = c := ⟨_, rfl⟩
      have hcb := cm_bd key (f h) (f a)
      have CC := Lib.hid fun n => cp_call C hR hA n (i := h) (j := a) (by omega) (by omega) hcm
      have LT := Lib.hid (cm_lt (key := key) (x := f h) (y := f a))
      rw [hcm] at hcb LT
      clear hcm
      have HJ := Lib.hid hj
      have HI := Lib.hid hi
      have HR := Lib.hid hR
      clear hi hj hR
      cases hk : decide (c < 0)
      · have L := Lib.hid (St.lt_no (key := key) (HC.out a h (Nat.le_refl _) (by omega) (by omega) (by omega)) fun h4 => by
          have := LT.out.2 h4
          simp at hk
          omega)
        go_wp2
        go_quiet (first | (go_at_call 40; exact CC.out _))
        go_wp2
        go_roundw
        case rel => exact ⟨i, h, rfl, rfl, by omega, by omega, by omega, HR.out.drewN _, HI.out, fun _ => L.out⟩
        case measure => simp [intOf]; omega
      · have L := Lib.hid (St.lt_yes (key := key) (LT.out.1 (of_decide_eq_true hk)))
        go_wp2
        go_quiet (first | (go_at_call 40; exact CC.out _))
        go_wp2
        go_roundw
        case rel => exact ⟨h + 1, j, by go_num, rfl, by omega, by omega, by omega, HR.out.drewN _, fun _ => L.out, HJ.out⟩
        case measure => simp [intOf]; omega
    · obtain rfl : i = j := by omega
      have M := Lib.hid (St.first_in hai hjb hj hi HS.out)
      clear hi hj
      go_wp2
      go_loopw [13] (fun vk wr2 => ∃ k : Nat, vk = .int .i64 k ∧ a ≤ k ∧ k + 1 ≤ i ∧ On w blk off N (St.rot a (a + 1) (k + 1) f) wr2) (fun vk _ => i - (intOf vk).toNat)
      case atStart => exact ⟨a, rfl, Nat.le_refl _, hai, by rw [St.rot_none2]; exact hR⟩
      case round =>
        obtain ⟨k, rfl, hak, hki, hR2⟩ := hrel
        clear hR
        by_cases hlt2 : k < i - 1
        · obtain ⟨G, hG⟩ : ∃ G, St.rot a (a + 1) (k + 1) f = G := ⟨_, rfl⟩
          have E := Lib.hid (St.sw_up (f := f) hak)
          rw [hG] at hR2 E
          clear hG
          have hc := hR2.cell hB
          have hf := hR2.froz hB
          have S := Lib.hid (hR2.swap (i := k) (j := k + 1) (by omega) (by omega))
          clear hR2
          go_wp2
          go_region
          all_goals go_wp2
          go_roundw
          case rel => exact ⟨k + 1, by go_num, by omega, by omega, by rw [← E.out]; exact S.out.drewN 1⟩
          case measure => simp [intOf]; omega
        · go_wp2
          (try simp only [Exit.inBlock, Exit.then])
          refine bodyPost_ret (results_none rfl _ _ _) rfl ?_
          refine ⟨rfl, _, hR2, ?_⟩
          rw [show k + 1 = i by omega]
          exact M.out

set_option maxRecDepth 100000 in
set_option maxHeartbeats 1000000 in
theorem sym_last (w : World) (blk off N cap K : Nat) (hB : Ba w blk off N) (hN : N < 4611686018427387904) (key : Int → Int) (q : Addr) (C : Cp w blk off N key K q) (a m : Nat) (f : Nat → Int) (W : World) (hO : On w blk off N f W)
    (hA : Al N K f) (h1 : a + 1 < m) (h2 : m + 1 ≤ N) (hS : St.So key f a m) (hC : St.Cr f a m (m + 1)) (vb : Int) (hb : vb = m + 1) :
    Calls Try.prog 48 #[.slice (some ⟨blk, off, none⟩) N cap, .int .i64 a, .int .i64 m, .int .i64 vb, .func (.func 40) #[] #[.pointer (some q)]] W fun e w' => e = .returned (.tuple #[]) ∧ ∃ g, On w blk off N g w' ∧ St.Mg key f g a (m + 1) := by
  have HS := Lib.hid hS
  have HC := Lib.hid hC
  clear hS hC
  have hne : ¬ ((m : Int) - a = 1) := by omega
  go_enter Try.func48, Try.ntmps48
  go_wp2
  go_loopw [14, 15] (fun vi vj wr => ∃ i j : Nat, vi = .int .i64 i ∧ vj = .int .i64 j ∧ a ≤ i ∧ i ≤ j ∧ j ≤ m ∧ On w blk off N f wr ∧ (a < i → St.lt key (f (i - 1)) (f m)) ∧ (j < m → St.lt key (f m) (f j))) (fun vi vj _ => (intOf vj).toNat - (intOf vi).toNat)
  case atStart => exact ⟨a, m, rfl, rfl, by omega, by omega, by omega, hO, fun h => absurd h (Nat.lt_irrefl _), fun h => absurd h (Nat.lt_irrefl _)⟩
  case round =>
    obtain ⟨i, j, rfl, rfl, hai, hij, hjb, hR, hi, hj⟩ := hrel
    clear hO
    by_cases hlt : i < j
    · obtain ⟨h, hh⟩ : ∃ h : Nat, ((i : Int) + j) / 2 = h := ⟨(i + j) / 2, by omega⟩
      have l1 : i ≤ h := by omega
      have l2 : h < j := by omega
      have hc := hR.cell hB
      obtain ⟨c, hcm⟩ : ∃ c, cm key (f m) (f h) = c := ⟨_, rfl⟩
      have hcb := cm_bd key (f m) (f h)
      have CC := Lib.hid fun n => cp_call C hR hA n (i := m) (j := h) (by omega) (by omega) hcm
      have LT := Lib.hid (cm_lt (key := key) (x := f m) (y := f h))
      rw [hcm] at hcb LT
      clear hcm
      have HJ := Lib.hid hj
      have HI := Lib.hid hi
      have HR := Lib.hid hR
      clear hi hj hR
      cases hk : decide (c < 0)
      · have L := Lib.hid (St.lt_no (key := key) (HC.out h m (by omega) (by omega) (Nat.le_refl _) (by omega)) fun h4 => by
          have := LT.out.2 h4
          simp at hk
          omega)
        go_wp2
        go_quiet (first | (go_at_call 40; exact CC.out _))
        go_wp2
        go_roundw
        case rel => exact ⟨h + 1, j, by go_num, rfl, by omega, by omega, by omega, HR.out.drewN _, fun _ => L.out, HJ.out⟩
        case measure => simp [intOf]; omega
      · have L := Lib.hid (St.lt_yes (key := key) (LT.out.1 (of_decide_eq_true hk)))
        go_wp2
        go_quiet (first | (go_at_call 40; exact CC.out _))
        go_wp2
        go_roundw
        case rel => exact ⟨i, h, rfl, rfl, by omega, by omega, by omega, HR.out.drewN _, HI.out, fun _ => L.out⟩
        case measure => simp [intOf]; omega
    · obtain rfl : i = j := by omega
      have M := Lib.hid (St.last_in hai hjb hi hj HS.out)
      clear hi hj
      go_wp2
      go_loopw [17] (fun vk wr2 => ∃ k : Nat, vk = .int .i64 k ∧ i ≤ k ∧ k ≤ m ∧ On w blk off N (St.rot k m (m + 1) f) wr2) (fun vk _ => (intOf vk).toNat)
      case atStart => exact ⟨m, rfl, hjb, Nat.le_refl _, by rw [St.rot_none1 _ _ _ (by omega)]; exact hR⟩
      case round =>
        obtain ⟨k, rfl, hik, hkm, hR2⟩ := hrel
        clear hR
        by_cases hlt2 : i < k
        · obtain ⟨G, hG⟩ : ∃ G, St.rot k m (m + 1) f = G := ⟨_, rfl⟩
          have E := Lib.hid (St.sw_down (f := f) (k := k - 1) (m := m) (by omega))
          rw [show k - 1 + 1 = k by omega] at E
          rw [hG] at hR2 E
          clear hG
          have hc := hR2.cell hB
          have hf := hR2.froz hB
          have S := Lib.hid (hR2.swap (i := k) (j := k - 1) (by omega) (by omega))
          clear hR2
          go_wp2
          go_region
          all_goals go_wp2
          go_roundw
          case rel => exact ⟨k - 1, by congr 1; omega, by omega, by omega, by rw [← E.out]; exact S.out.drewN 1⟩
          case measure => simp [intOf]; omega
        · go_wp2
          (try simp only [Exit.inBlock, Exit.then])
          refine bodyPost_ret (results_none rfl _ _ _) rfl ?_
          refine ⟨rfl, _, hR2, ?_⟩
          rw [show k = i by omega]
          exact M.out
end Go.Proofs.Ytpfhkmppbochnaa
/- The contract of the symmetric merge inside slices.SortStableFunc, over a row of places: two runs that are in order become one, and all other memory stays as it was. Conditions: the runs lie within the row, the right one's numbers above the left one's. -/
namespace Go.Proofs.Ytpfhkmppbochnaa
open Go.RowKit Go.Sort

set_option maxRecDepth 100000 in
set_option maxHeartbeats 2000000 in
theorem sym_any (w : World) (blk off N cap K : Nat) (hB : Ba w blk off N) (hN : N < 4611686018427387904) (key : Int → Int) (q : Addr) (C : Cp w blk off N key K q) : ∀ (D a m b : Nat) (f : Nat → Int) (W : World), b - a ≤ D → On w blk off N f W →
    Al N K f → a < m → m < b → b ≤ N → St.So key f a m → St.So key f m b → St.Cr f a m b →
    Calls Try.prog 48 #[.slice (some ⟨blk, off, none⟩) N cap, .int .i64 a, .int .i64 m, .int .i64 b, .func (.func 40) #[] #[.pointer (some q)]] W fun e w' => e = .returned (.tuple #[]) ∧ ∃ g, On w blk off N g w' ∧ St.Mg key f g a b := by
  intro D
  induction D with
  | zero => intro a m b f W hD _ _ h1 h2; omega
  | succ D ih =>
  intro a m b f W hD hO hA h1 h2 h3 hS1 hS2 hC
  by_cases c1 : m = a + 1
  · subst c1
    exact sym_first w blk off N cap K hB hN key q C a b f W hO hA h2 h3 hS2 hC _ (by omega)
  by_cases c2 : b = m + 1
  · subst c2
    exact sym_last w blk off N cap K hB hN key q C a m f W hO hA (by omega) h3 hS1 hC _ (by omega)
  have HS1 := Lib.hid hS1
  have HS2 := Lib.hid hS2
  have HC := Lib.hid hC
  have IH := Lib.hid ih
  clear hS1 hS2 hC ih
  have hne : ¬ ((m : Int) - a = 1) := by omega
  have hne2 : ¬ ((b : Int) - m = 1) := by omega
  obtain ⟨mid, hmid⟩ : ∃ mid : Nat, ((a : Int) + b) / 2 = mid := ⟨(a + b) / 2, by omega⟩
  have m1 : 2 * mid ≤ a + b := by omega
  have m2 : a + b ≤ 2 * mid + 1 := by omega
  obtain ⟨lo, hi, l1, l2, l3, l4, l5, l6, hcase⟩ : ∃ lo hi : Nat, a ≤ lo ∧ lo ≤ hi ∧ hi ≤ m ∧ mid + m ≤ lo + b ∧ m + hi ≤ mid + m ∧ (hi < m → hi = mid) ∧ ((mid < m ∧ (lo : Int) = mid + m - b ∧ hi = mid) ∨ (¬ mid < m ∧ lo = a ∧ hi = m)) := by
    by_cases hm : mid < m
    · exact ⟨mid + m - b, mid, by omega, by omega, by omega, by omega, by omega, fun _ => rfl, .inl ⟨hm, by omega, rfl⟩⟩
    · exact ⟨a, m, by omega, by omega, by omega, by omega, by omega, fun h => by omega, .inr ⟨hm, rfl, rfl⟩⟩
  go_enter Try.func48, Try.ntmps48
  go_upto_if 140 with fail
  go_cut [20, 21] from 141 (fun x y wx => x = .int .i64 lo ∧ y = .int .i64 hi ∧ wx = W)
  case first =>
    rcases hcase with ⟨hm, k1, k2⟩ | ⟨hm, k1, k2⟩
    · go_wp2
      go_meet
      case rel => exact ⟨by rw [k1], by rw [k2], rfl⟩
    · go_wp2
      go_meet
      case rel => exact ⟨by rw [k1], by rw [k2], rfl⟩
  case rest =>
    obtain ⟨rfl, rfl, rfl⟩ := hcut
    obtain ⟨P, hP⟩ : ∃ P : Nat, (mid : Int) + m - 1 = P := ⟨mid + m - 1, by omega⟩
    have HCase := Lib.hid hcase
    clear hcase
    go_wp2
    go_loopw [20, 21] (fun vi vj wr => ∃ i j : Nat, vi = .int .i64 i ∧ vj = .int .i64 j ∧ lo ≤ i ∧ i ≤ j ∧ j ≤ hi ∧ On w blk off N f wr ∧ (lo < i → St.lt key (f (i - 1)) (f (mid + m - i))) ∧ (j < hi → St.lt key (f (mid + m - 1 - j)) (f j))) (fun vi vj _ => (intOf vj).toNat - (intOf vi).toNat)
    case atStart => exact ⟨lo, hi, rfl, rfl, Nat.le_refl _, l2, Nat.le_refl _, hO, fun h => absurd h (Nat.lt_irrefl _), fun h => absurd h (Nat.lt_irrefl _)⟩
    case round =>
      obtain ⟨i, j, rfl, rfl, hai, hij, hjb, hR, hi1, hj1⟩ := hrel
      clear hO
      by_cases hlt : i < j
      · obtain ⟨h, hh⟩ : ∃ h : Nat, ((i : Int) + j) / 2 = h := ⟨(i + j) / 2, by omega⟩
        have g1 : i ≤ h := by omega
        have g2 : h < j := by omega
        obtain ⟨pc, hpc⟩ : ∃ pc : Nat, (P : Int) - h = pc := ⟨P - h, by omega⟩
        have g3 : m ≤ pc := by omega
        have g4 : pc < b := by omega
        have hc := hR.cell hB
        obtain ⟨c, hcm⟩ : ∃ c, cm key (f pc) (f h) = c := ⟨_, rfl⟩
        have hcb := cm_bd key (f pc) (f h)
        have CC := Lib.hid fun n => cp_call C hR hA n (i := pc) (j := h) (by omega) (by omega) hcm
        have LT := Lib.hid (cm_lt (key := key) (x := f pc) (y := f h))
        rw [hcm] at hcb LT
        clear hcm
        have HJ := Lib.hid hj1
        have HI := Lib.hid hi1
        have HR := Lib.hid hR
        clear hi1 hj1 hR
        cases hk : decide (c < 0)
        · have L := Lib.hid (St.lt_no (key := key) (HC.out h pc (by omega) (by omega) (by omega) (by omega)) fun h4 => by
            have := LT.out.2 h4
            simp at hk
            omega)
          rw [show pc = mid + m - (h + 1) by omega] at L
          go_wp2
          go_quiet (first | (go_at_call 40; exact CC.out _))
          go_wp2
          go_roundw
          case rel => exact ⟨h + 1, j, by go_num, rfl, by omega, by omega, by omega, HR.out.drewN _, fun _ => L.out, HJ.out⟩
          case measure => simp [intOf]; omega
        · have L := Lib.hid (St.lt_yes (key := key) (LT.out.1 (of_decide_eq_true hk)))
          rw [show pc = mid + m - 1 - h by omega] at L
          go_wp2
          go_quiet (first | (go_at_call 40; exact CC.out _))
          go_wp2
          go_roundw
          case rel => exact ⟨i, h, rfl, rfl, by omega, by omega, by omega, HR.out.drewN _, HI.out, fun _ => L.out⟩
          case measure => simp [intOf]; omega
      · obtain rfl : i = j := by omega
        obtain ⟨e, he⟩ : ∃ e : Nat, (mid : Int) + m - i = e := ⟨mid + m - i, by omega⟩
        have H1 : Hid (a < i → e < b → St.lt key (f (i - 1)) (f e)) := Lib.hid fun u1 u2 => by
          rw [show e = mid + m - i by omega]
          exact hi1 (by rcases HCase.out with ⟨_, _, _⟩ | ⟨_, _, _⟩ <;> omega)
        have H2 : Hid (m < e → i < m → St.lt key (f (e - 1)) (f i)) := Lib.hid fun u1 u2 => by
          rw [show e - 1 = mid + m - 1 - i by omega]
          exact hj1 (by rcases HCase.out with ⟨_, _, _⟩ | ⟨_, _, _⟩ <;> omega)
        clear hi1 hj1
        have k1 : a ≤ i := by omega
        have k2 : i ≤ m := by omega
        have k3 : m ≤ e := by rcases HCase.out with ⟨_, _, _⟩ | ⟨_, _, _⟩ <;> omega
        have k4 : e ≤ b := by omega
        have hmm : i + (e - m) = mid := by omega
        have hAr := hA.rot (a := i) (m := m) (b := e) k2 k3 (by omega)
        have L1 := Lib.hid (St.so_rot1 (e := e) HS1.out k2)
        have L2 := Lib.hid (St.so_rot2 (HS2.out.part (Nat.le_refl _) k4) k2 k3)
        have L3 := Lib.hid (St.cr_left HC.out k2 k3 k4)
        have R1 := Lib.hid (St.so_rot3 (HS1.out.part k1 (Nat.le_refl _)) k3)
        have R2 := Lib.hid (St.so_rot4 (s := i) HS2.out k3)
        have R3 := Lib.hid (St.cr_right HC.out k1 k3)
        have MM : Hid (∀ g h, St.Mg key (St.rot i m e f) g a (i + (e - m)) → St.Mg key g h (i + (e - m)) b → St.Mg key f h a b) :=
          Lib.hid fun g h x y => St.merged k1 k2 k3 k4 H1.out H2.out HS1.out HS2.out x y
        obtain ⟨F, hF⟩ : ∃ F, St.rot i m e f = F := ⟨_, rfl⟩
        have HF := Lib.hid hF
        rw [hmm, hF] at L2 L3 R1 R3 MM
        rw [hF] at hAr L1 R2
        obtain ⟨t, ht⟩ : ∃ t : Bool, decide (i < m ∧ m < e) = t := ⟨_, rfl⟩
        obtain ⟨t2, ht2⟩ : ∃ t : Bool, decide (a < i ∧ i < mid) = t := ⟨_, rfl⟩
        obtain ⟨t3, ht3⟩ : ∃ t : Bool, decide (mid < e ∧ e < b) = t := ⟨_, rfl⟩
        have T2 := Lib.hid ht2
        have T3 := Lib.hid ht3
        clear ht2 ht3
        go_upto_region 39 with fail
        go_cut [24, 185] from 186 (fun x y wx => x = .int .i64 e ∧ y = .bool t ∧ wx = wr)
        case first =>
          by_cases d1 : i < m
          · by_cases d2 : m < e
            · go_wp2_with fail
              go_meet
              case rel => exact ⟨rfl, by rw [← ht]; simp [d1, d2], rfl⟩
            · go_wp2_with fail
              go_meet
              case rel => exact ⟨rfl, by rw [← ht]; simp [d2], rfl⟩
          · go_wp2_with fail
            go_meet
            case rel => exact ⟨rfl, by rw [← ht]; simp [d1], rfl⟩
        case rest =>
        obtain ⟨rfl, rfl, rfl⟩ := hcut
        go_upto_if 185 with fail
        go_cut [24] from 25 (fun x wx => x = .int .i64 e ∧ On w blk off N F wx)
        case first =>
          cases t
          · have hFf : F = f := by
              rw [← hF]
              have h := of_decide_eq_false ht
              by_cases d1 : i < m
              · rw [show e = m by omega]; exact St.rot_none2 _ _ _
              · rw [show i = m by omega]; exact St.rot_none1 _ _ _ k3
            go_wp2_with fail
            go_meet
            case rel => exact ⟨rfl, by rw [hFf]; exact hR⟩
          · have h := of_decide_eq_true ht
            go_wp2_with fail
            refine (rotate_any w blk off N cap hB hN _ i m e f _ hR h.1 h.2 (by omega)).mono ?_; rintro x w1 ⟨rfl, hR1⟩
            rw [hF] at hR1
            go_wp2_with fail
            go_meet
            case rel => exact ⟨rfl, hR1⟩
        case rest =>
        obtain ⟨rfl, hR1⟩ := hcut
        clear hR hF ht
        have ht2 := T2.out
        clear T2
        go_upto_region 41 with fail
        go_cut [24, 199] from 200 (fun x y wx => x = .int .i64 e ∧ y = .bool t2 ∧ wx = wc)
        case first =>
          by_cases d1 : a < i
          · by_cases d2 : i < mid
            · go_wp2_with fail
              go_meet
              case rel => exact ⟨rfl, by rw [← ht2]; simp [d1, d2], rfl⟩
            · go_wp2_with fail
              go_meet
              case rel => exact ⟨rfl, by rw [← ht2]; simp [d2], rfl⟩
          · go_wp2_with fail
            go_meet
            case rel => exact ⟨rfl, by rw [← ht2]; simp [d1], rfl⟩
        case rest =>
        obtain ⟨rfl, rfl, rfl⟩ := hcut
        go_upto_if 199 with fail
        go_cut [24] from 25 (fun x wx => x = .int .i64 e ∧ ∃ g, On w blk off N g wx ∧ St.Mg key F g a mid)
        case first =>
          cases t2
          · have h := of_decide_eq_false ht2
            have Z := St.Mg.none L1.out L2.out k1 (by omega) h
            go_wp2_with fail
            go_meet
            case rel => exact ⟨rfl, F, hR1, Z⟩
          · have h := of_decide_eq_true ht2
            go_wp2_with fail
            refine (IH.out a i mid F _ (by omega) hR1 hAr h.1 h.2 (by omega) L1.out L2.out L3.out).mono ?_; rintro x w1 ⟨rfl, g, hR2, hM2⟩
            go_wp2_with fail
            go_meet
            case rel => exact ⟨rfl, g, hR2, hM2⟩
        case rest =>
        obtain ⟨rfl, g, hR2, hM2⟩ := hcut
        clear hR1 ht2
        have HM2 := Lib.hid hM2
        clear hM2
        have ht3 := T3.out
        clear T3
        go_upto_region 43 with fail
        go_cut [24, 213] from 214 (fun x y wx => x = .int .i64 e ∧ y = .bool t3 ∧ wx = wc)
        case first =>
          by_cases d1 : mid < e
          · by_cases d2 : e < b
            · go_wp2_with fail
              go_meet
              case rel => exact ⟨rfl, by rw [← ht3]; simp [d1, d2], rfl⟩
            · go_wp2_with fail
              go_meet
              case rel => exact ⟨rfl, by rw [← ht3]; simp [d2], rfl⟩
          · go_wp2_with fail
            go_meet
            case rel => exact ⟨rfl, by rw [← ht3]; simp [d1], rfl⟩
        case rest =>
        obtain ⟨rfl, rfl, rfl⟩ := hcut
        have hk : ∀ k, mid ≤ k → k < b → g k = F k := fun k hk _ => HM2.out.1 k (.inr hk)
        have Q1 := Lib.hid (R1.out.like fun k x y => hk k x (by omega))
        have Q2 := Lib.hid (R2.out.like fun k x y => hk k (by omega) y)
        have Q3 := Lib.hid (R3.out.like hk)
        have hAg := hAr.mg HM2.out (by omega)
        clear hk
        cases t3
        · have h := of_decide_eq_false ht3
          have Z := St.Mg.none Q1.out Q2.out (by omega) k4 h
          go_wp2_with fail
          go_end0
          exact ⟨rfl, g, hR2, MM.out g g HM2.out Z⟩
        · have h := of_decide_eq_true ht3
          go_wp2_with fail
          refine (IH.out mid e b g _ (by omega) hR2 hAg h.1 h.2 h3 Q1.out Q2.out Q3.out).mono ?_; rintro x w1 ⟨rfl, g', hR3, hM3⟩
          go_wp2_with fail
          go_end0
          exact ⟨rfl, g', hR3, MM.out g g' HM2.out hM3⟩
end Go.Proofs.Ytpfhkmppbochnaa
