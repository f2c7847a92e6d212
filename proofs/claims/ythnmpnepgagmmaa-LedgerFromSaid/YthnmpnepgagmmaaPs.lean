/- fixnum.Sum, shaken out of XFixA, XFixB. -/
import Derived.Test.YthnmpnepgagmmaaFr
import Derived.WalkKit
import Derived.WalkSpells
import Derived.WalkLawsBesides
import Derived.Laws.Externs
import Derived.Shelf.Spec.BitsCarry
import Derived.Lib.Hide
namespace Go.Proofs.Ythnmpnepgagmmaa
open Go.RowKit


/-- The number that a call tells: it, or 0 where it does not fit. -/
def tN (x : Int) : Int := if -9223372036854775808 ≤ x ∧ x ≤ 9223372036854775807 then x else 0
/-- The error that a call tells: none, or 6 (it does not fit). -/
def tE (x : Int) : Int := if -9223372036854775808 ≤ x ∧ x ≤ 9223372036854775807 then 0 else 6
/-- A 64-bit number with a sign. -/
def I64 (x : Int) : Prop := -9223372036854775808 ≤ x ∧ x ≤ 9223372036854775807
/-- The low word of a sum with a carry, and the carry. -/
def a64 (x y c : Int) : Int := (x + y + c) % 18446744073709551616
def c64 (x y c : Int) : Int := (x + y + c) / 18446744073709551616
theorem add64 (x y c : Int) (hx : 0 ≤ x) (hy : 0 ≤ y) (hc0 : 0 ≤ c) (hc : c ≤ 1) (w : World) : (callFunc 69 #[.int .u64 x, .int .u64 y, .int .u64 c]).run Try.prog w =
    .ok (.value (.tuple #[.int .u64 (a64 x y c), .int .u64 (c64 x y c)])) w := by
  obtain ⟨x, rfl⟩ := Int.eq_ofNat_of_zero_le hx
  obtain ⟨y, rfl⟩ := Int.eq_ofNat_of_zero_le hy
  obtain ⟨c, rfl⟩ := Int.eq_ofNat_of_zero_le hc0
  rw [run_callFunc_extern Try.func69 (by kernel_rfl) (by kernel_rfl) (by kernel_rfl) (e := add64Entry) (by kernel_rfl), run_add64 x y c (by omega) (by omega) (by omega) (by omega)]
  rfl
theorem ret2 {x y x' y' : Int} (h : x = x') (k : y = y') : Ending.returned (.tuple #[.int .i64 x, .int .i64 y]) = Ending.returned (.tuple #[.int .i64 x', .int .i64 y']) := by rw [h, k]
theorem ret1 {k : IntKind} {x x' : Int} (h : x = x') : Ending.returned (.int k x) = Ending.returned (.int k x') := by rw [h]
/-- The word above a number that is held in two; the number's own low word. -/
def up (n : Int) : Int := n / 18446744073709551616 % 18446744073709551616
def lw (n : Int) : Int := n % 18446744073709551616
theorem up_bd (n : Int) : 0 ≤ up n ∧ up n ≤ 18446744073709551615 := by unfold up; omega
theorem lw_bd (n : Int) : 0 ≤ lw n ∧ lw n ≤ 18446744073709551615 := by unfold lw; omega
theorem u64_wrap (n : Int) : IntKind.u64.wrap n = lw n := by unfold lw; exact IntKind.wrap_u64 n
theorem up_of (n : Int) (hn : I64 n) : IntKind.u64.wrap (n / 9223372036854775808) = up n := by
  unfold I64 at hn; rw [IntKind.wrap_u64]; unfold up; omega
set_option maxHeartbeats 400000 in
theorem upper_any (n : Int) (hn : I64 n) (w : World) :
    Calls Try.prog 70 #[.int .i64 n] w fun e w' => e = .returned (.int .u64 (up n)) ∧ w = w' := by
  have H := Lib.hid (up_of n hn)
  unfold I64 at hn
  go_enter Try.func70, Try.ntmps70
  go_wp2
  go_ret
  exact ⟨ret1 H.out, rfl⟩
theorem tN_in {x : Int} (h : I64 x) : tN x = x := if_pos h
theorem tE_in {x : Int} (h : I64 x) : tE x = 0 := if_pos h
theorem tN_out {x : Int} (h : ¬ I64 x) : tN x = 0 := if_neg h
theorem tE_out {x : Int} (h : ¬ I64 x) : tE x = 6 := if_neg h
/-- The two words of a sum. -/
def hiS (S : Int) : Int := S / 18446744073709551616 % 18446744073709551616
theorem hi_bd (n : Int) : 0 ≤ hiS n ∧ hiS n ≤ 18446744073709551615 := by unfold hiS; omega
theorem lo_step (S n : Int) : a64 (lw S) (IntKind.u64.wrap n) 0 = lw (S + n) := by rw [u64_wrap]; unfold a64 lw; omega
theorem hi_step (S n : Int) : a64 (hiS S) (up n) (c64 (lw S) (IntKind.u64.wrap n) 0) = hiS (S + n) := by
  rw [u64_wrap]; unfold a64 hiS lw c64 up; omega
theorem c_bd (x y : Int) (hx : 0 ≤ x ∧ x ≤ 18446744073709551615) (hy : 0 ≤ y ∧ y ≤ 18446744073709551615) : 0 ≤ c64 x y 0 ∧ c64 x y 0 ≤ 1 := by unfold c64; omega
theorem wr_bd (n : Int) : 0 ≤ IntKind.u64.wrap n ∧ IntKind.u64.wrap n ≤ 18446744073709551615 := by rw [u64_wrap]; exact lw_bd n
/-- The sum of a list. -/
def sm : List Int → Int
  | [] => 0
  | n :: l => n + sm l
theorem sm_snoc (l : List Int) (n : Int) : sm (l ++ [n]) = sm l + n := by
  induction l with
  | nil => simp [sm]
  | cons m l ih => simp only [List.cons_append, sm, ih]; omega
theorem sm_take (zs : List Int) (k : Nat) (h : k < zs.length) : sm (zs.take (k + 1)) = sm (zs.take k) + zs.getD k 0 := by
  rw [List.take_succ_eq_append_getElem h, sm_snoc]; simp [List.getD, h]
theorem sm_bd (l : List Int) (h : ∀ n, n ∈ l → I64 n) : -9223372036854775808 * (l.length : Int) ≤ sm l ∧ sm l ≤ 9223372036854775807 * (l.length : Int) := by
  induction l with
  | nil => simp [sm]
  | cons n l ih =>
    have h1 := ih fun m hm => h m (by simp [hm])
    have h2 := h n (by simp)
    unfold I64 at h2
    rw [List.length_cons]
    unfold sm
    omega

/-- Whether the whole sum does not fit, as Sum asks it. -/
theorem sum_bad (S : Int) (h1 : -100000000000000000000000000000000000000 ≤ S) (h2 : S ≤ 100000000000000000000000000000000000000) (h : (hiS S != up (wrap64 (lw S))) = true) : 0 = tN S ∧ 6 = tE S := by
  have h' : hiS S ≠ up (wrap64 (lw S)) := by simpa using h
  have A : ¬ I64 S := by
    intro hS
    apply h'
    unfold I64 at hS
    unfold hiS up wrap64 lw
    omega
  exact ⟨(tN_out A).symm, (tE_out A).symm⟩
theorem sum_good (S : Int) (h1 : -100000000000000000000000000000000000000 ≤ S) (h2 : S ≤ 100000000000000000000000000000000000000) (h : (hiS S != up (wrap64 (lw S))) = false) : wrap64 (lw S) = tN S ∧ 0 = tE S := by
  have h' : hiS S = up (wrap64 (lw S)) := by simpa using h
  have A : I64 S := by
    unfold hiS up wrap64 lw at h'
    unfold I64
    omega
  rw [tN_in A, tE_in A]
  unfold I64 at A
  unfold wrap64 lw
  exact ⟨by omega, rfl⟩
theorem w64_I64 (n : Int) : I64 (wrap64 n) := by unfold I64 wrap64; omega
set_option maxHeartbeats 1000000 in
theorem sum_any (b off len cap : Nat) (zs : List Int) (w : World) (hz : zs.length = len) (hbig : len ≤ 1152921504606846976) (hr : ∀ n, n ∈ zs → I64 n)
    (hc : ∀ j, j < len → w.cell? ⟨b, off + j, none⟩ = some (.int .i64 (zs.getD j 0))) :
    Calls Try.prog 62 #[.slice (some ⟨b, off, none⟩) len cap] w fun e w' => e = .returned (.tuple #[.int .i64 (tN (sm zs)), .int .i64 (tE (sm zs))]) ∧ w = w' := by
  have HR := Lib.hid hr
  have HZ := Lib.hid hz
  clear hr hz
  go_enter Try.func62, Try.ntmps62
  go_wp2
  go_loop [4, 5, 6, 11] (fun h l c i => ∃ (k : Nat) (cc : Int), k ≤ len ∧ i = .int .i64 k ∧ h = .int .u64 (hiS (sm (zs.take k))) ∧ l = .int .u64 (lw (sm (zs.take k))) ∧ c = .int .u64 cc) (fun _ _ _ i => len - (intOf i).toNat)
  case atStart => exact ⟨0, 0, Nat.zero_le _, rfl, rfl, rfl, rfl⟩
  case round =>
    obtain ⟨k, cc, hk, rfl, rfl, rfl, rfl⟩ := hrel
    by_cases hlt : k < len
    · have hcell := hc k hlt
      have hx : zs.getD k 0 ∈ zs := by
        have h3 : k < zs.length := by have := HZ.out; omega
        rw [show zs.getD k 0 = zs[k] from by simp [List.getD, h3]]
        exact List.getElem_mem _
      have hI := HR.out _ hx
      have HS := Lib.hid (sm_take zs k (by have := HZ.out; omega))
      obtain ⟨x, hxe⟩ : ∃ x, x = zs.getD k 0 := ⟨_, rfl⟩
      rw [← hxe] at hcell hI HS
      have l1 := lw_bd (sm (zs.take k))
      have l2 := hi_bd (sm (zs.take k))
      have l3 := wr_bd x
      have l4 := c_bd _ _ l1 l3
      have l5 := up_bd x
      obtain ⟨S, hS⟩ : ∃ S, S = sm (zs.take k) := ⟨_, rfl⟩
      rw [← hS] at l1 l2 l4 HS
      have e1 := Lib.hid (lo_step S x)
      have e2 := Lib.hid (hi_step S x)
      clear hx
      have HX := Lib.hid hxe
      have HSS := Lib.hid hS
      clear hxe hc
      rw [← hS]
      clear hS
      have hI' := Lib.hid hI
      clear hI
      go_wp2_with (first | simp only [add64 (lw S) (IntKind.u64.wrap x) 0 l1.1 l3.1 (Int.le_refl 0) (by decide)] | simp only [add64 (hiS S) (up x) _ l2.1 l5.1 l4.1 l4.2] | (go_at_call 70; refine (upper_any x hI'.out _).mono ?_; rintro e w' ⟨rfl, rfl⟩))
      go_round
      case rel => exact ⟨k + 1, _, by omega, by go_num, by rw [HS.out, e2.out], by rw [HS.out, e1.out], rfl⟩
      case measure => simp [intOf]; omega
    · obtain rfl : k = len := by omega
      have hT : zs.take k = zs := by rw [← HZ.out]; exact List.take_length
      rw [hT]
      have hb := sm_bd zs HR.out
      have hb1 : -100000000000000000000000000000000000000 ≤ sm zs := by have := HZ.out; omega
      have hb2 : sm zs ≤ 100000000000000000000000000000000000000 := by have := HZ.out; omega
      have B1 := Lib.hid (sum_bad (sm zs) hb1 hb2)
      have B2 := Lib.hid (sum_good (sm zs) hb1 hb2)
      have l1 := lw_bd (sm zs)
      have HI := Lib.hid (w64_I64 (lw (sm zs)))
      clear hb hb1 hb2 hT hc
      go_wp2_with (go_at_call 70; refine (upper_any _ HI.out _).mono ?_; rintro e w' ⟨rfl, rfl⟩)
      · have h : (hiS (sm zs) != up (wrap64 (lw (sm zs)))) = true := by assumption
        go_ret2
        exact ⟨ret2 (B1.out h).1 (B1.out h).2, rfl⟩
      · have h : (hiS (sm zs) != up (wrap64 (lw (sm zs)))) = false := by assumption
        go_ret2
        exact ⟨ret2 (B2.out h).1 (B2.out h).2, rfl⟩
/-- The sum of none. -/
theorem sum_none (c : Nat) (w : World) :
    Calls Try.prog 62 #[.slice none 0 c] w fun e w' => e = .returned (.tuple #[.int .i64 0, .int .i64 0]) ∧ w = w' := by
  go_enter Try.func62, Try.ntmps62
  go_wp2
  go_loop [4, 5, 6, 11] (fun h l _ i => i = .int .i64 0 ∧ h = .int .u64 0 ∧ l = .int .u64 0) (fun _ _ _ _ => 0)
  case atStart => exact ⟨rfl, rfl, rfl⟩
  case round =>
    obtain ⟨rfl, rfl, rfl⟩ := hrel
    go_wp2_with (go_at_call 70; refine (upper_any 0 (by unfold I64; omega) _).mono ?_; rintro e w' ⟨rfl, rfl⟩)
    go_ret2
    exact ⟨rfl, rfl⟩
end Go.Proofs.Ythnmpnepgagmmaa
