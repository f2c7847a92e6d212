/- The walk of the statement FixnumAll: it returns true for every list of int64 numbers, and leaves the memory that was there as it was. -/
import Derived.Test.YtgjaknfphokjpaaSum
import Derived.OpenShut
namespace Go.Proofs.Ytgjaknfphokjpaa
open Go.RowKit

/-- The sum of none, wherever the list lies. -/
theorem sum_zero (A : Option Addr) (c : Nat) (w : World) :
    Calls Try.prog 20 #[.slice A 0 c] w fun e w' => e = .returned (.tuple #[.int .i64 0, .int .i64 0]) ∧ w = w' := by
  go_enter Try.func20, Try.ntmps20
  go_wp2
  go_loop [4, 5, 6, 11] (fun h l _ i => i = .int .i64 0 ∧ h = .int .u64 0 ∧ l = .int .u64 0) (fun _ _ _ _ => 0)
  case atStart => exact ⟨rfl, rfl, rfl⟩
  case round =>
    obtain ⟨rfl, rfl, rfl⟩ := hrel
    go_wp2_with (go_at_call 36; refine (upper_any 0 (by unfold I64; omega) _).mono ?_; rintro e w' ⟨rfl, rfl⟩)
    go_ret2
    exact ⟨rfl, rfl⟩
set_option maxHeartbeats 1000000 in
theorem sumn_zero (A : Option Addr) (c : Nat) (w : World) :
    Calls Try.prog 37 #[.slice A 0 c] w fun e w' => e = .returned (.agg (nm false (dgs 0))) ∧ Quiet w w' := by
  go_enter Try.func37, Try.ntmps37
  go_wp2_with fail
  refine (of_zero _).mono ?_; rintro e w1 ⟨rfl, hq1⟩
  have hlt1 : w.heap.size < w1.heap.size := by have := hq1.2.size; simp at this; omega
  have r0 : Row w1 w.heap.size 42 (nm false fun _ => 0) := (Row.new w 42 (nm false fun _ => 0)).below hq1.2 (by simp)
  have HQ1 := Lib.hid (((Quiet.refl w).alloc (nm false fun _ => 0) 42).trans hq1)
  have R0 := Lib.hid r0
  clear hq1 r0
  go_wp2_with (refine wl_store_nm w1.heap.size false false (dgs 0) (fun _ => 0) ?_ ?_ ?_ ?_; rfl; rfl; exact Row.new w1 42 (nm false fun _ => 0))
  have rn := Row.new w1 42 (nm false fun _ => 0)
  have RA := Lib.hid (rn.whole (nm false (dgs 0)))
  have RB := Lib.hid ((R0.out.alloc (.cells (nm false fun _ => 0) 42)).apart (g' := w1.heap.size) (by omega) (nm false (dgs 0)))
  have RQ := Lib.hid ((HQ1.out.alloc _ _).setRow rn (by omega) (nm false (dgs 0)))
  clear rn HQ1 R0
  obtain ⟨W, hW⟩ : ∃ W, W = (w1.alloc (.cells (nm false fun _ => 0) 42)).setRow w1.heap.size (nm false (dgs 0)) := ⟨_, rfl⟩
  rw [← hW] at RA RB RQ
  go_loopw [4] (fun i wr => i = .int .i64 0 ∧ wr = W) (fun _ _ => 0)
  case atStart => exact ⟨rfl, hW.symm⟩
  case round =>
    obtain ⟨rfl, rfl⟩ := hrel
    clear hW
    go_wp2_with (first
      | (refine wl_load_nm w1.heap.size false (dgs 0) ?_ ?_ ?_; rfl; exact RA.out)
      | (refine wl_store_nm w.heap.size false false (dgs 0) (fun _ => 0) ?_ ?_ ?_ ?_; rfl; rfl; exact RB.out))
    exact bodyPost_ret (v := .agg (nm false (dgs 0))) (results_cell_row rfl _ _ w.heap.size 42 _ (0, 0) _ rfl (RB.out.whole _) Try.underlying42 rfl (by kernel_rfl)) rfl
      ⟨rfl, RQ.out.setRow RB.out (Nat.le_refl _) _⟩

/-- Where a list of numbers lies: anywhere, if it is empty; else in a row of cells. -/
def Rd (w : World) (A : Option Addr) (n : Nat) (zs : List Int) : Prop :=
  zs.length = n ∧ (0 < n → ∃ b o, A = some ⟨b, o, none⟩ ∧ ∀ j, j < n → w.cell? ⟨b, o + j, none⟩ = some (.int .i64 (zs.getD j 0)))
theorem Rd.below {w w' : World} {A : Option Addr} {n : Nat} {zs : List Int} (h : Rd w A n zs) (b : Below w.heap.size w w') : Rd w' A n zs :=
  ⟨h.1, fun hn => by
    obtain ⟨bl, o, e, hc⟩ := h.2 hn
    exact ⟨bl, o, e, fun j hj => (b.cell (p := ⟨bl, o + j, none⟩) (World.block_lt_of_cell? w _ (hc j hj))).trans (hc j hj)⟩⟩

theorem fsum_any (A : Option Addr) (n c : Nat) (zs : List Int) (w : World) (h : Rd w A n zs) (hbig : n ≤ 1152921504606846975) (hr : ∀ n, n ∈ zs → I64 n) :
    Calls Try.prog 20 #[.slice A n c] w fun e w' => e = .returned (.tuple #[.int .i64 (tN (sm zs)), .int .i64 (tE (sm zs))]) ∧ w = w' := by
  rcases Nat.eq_zero_or_pos n with h0 | h0
  · subst h0
    have : zs = [] := List.eq_nil_of_length_eq_zero h.1
    subst this
    exact sum_zero A c w
  · obtain ⟨b, o, rfl, hc⟩ := h.2 h0
    exact sum_any b o n c zs w h.1 (by omega) hr hc
theorem rsum_num (A : Option Addr) (n c : Nat) (zs : List Int) (w : World) (h : Rd w A n zs) (hbig : n ≤ 1152921504606846975) (hr : ∀ n, n ∈ zs → I64 n) :
    Calls Try.prog 37 #[.slice A n c] w fun e w' => IsNum (sm zs) (9223372036854775808 * (n : Int)) e ∧ Quiet w w' := by
  rcases Nat.eq_zero_or_pos n with h0 | h0
  · subst h0
    have : zs = [] := List.eq_nil_of_length_eq_zero h.1
    subst this
    refine (sumn_zero A c w).mono ?_
    rintro e w' ⟨rfl, hq⟩
    exact ⟨⟨false, 0, rfl, Int.le_refl 0, by decide, rfl⟩, hq⟩
  · obtain ⟨b, o, rfl, hc⟩ := h.2 h0
    exact sum_num b o n c zs w h.1 hbig hr hc
theorem big12 (n : Nat) (h : n ≤ 1152921504606846975) : 9223372036854775808 * (n : Int) < Rf.T 12 := by
  have : (10633823966279326992483775380034977792 : Int) < Rf.T 12 := by decide
  omega

set_option maxHeartbeats 400000 in
theorem rsum_any (A : Option Addr) (n c : Nat) (zs : List Int) (w : World) (h : Rd w A n zs) (hbig : n ≤ 1152921504606846975) (hr : ∀ n, n ∈ zs → I64 n) :
    Calls Try.prog 21 #[.slice A n c] w fun e w' => e = .returned (.tuple #[.int .i64 (tN (sm zs)), .int .i64 (tE (sm zs))]) ∧ Quiet w w' := by
  have S := Lib.hid (rsum_num A n c zs w h hbig hr)
  have B := Lib.hid (big12 n hbig)
  clear h hr
  go_enter Try.func21, Try.ntmps21
  go_wp2_with fail
  refine S.out.mono ?_; rintro e w1 ⟨⟨u, N, rfl, n0, n1, hx⟩, q1⟩
  have T := Lib.hid (fun W => told_any u N n0 (Int.lt_of_le_of_lt n1 B.out) W)
  rw [hx] at T
  clear hx n0 n1
  go_wp2_with fail
  refine (T.out _).mono ?_; rintro e w4 ⟨rfl, q4⟩
  go_wp2_with fail
  go_ret2
  exact ⟨rfl, q1.trans q4⟩

set_option maxHeartbeats 1000000 in
theorem same_any (A A' : Option Addr) (n c c' : Nat) (zs : List Int) (w : World) (h : Rd w A n zs) (h' : Rd w A' n zs) (hbig : n ≤ 1152921504606846975) :
    Calls Try.prog 22 #[.slice A n c, .slice A' n c'] w fun e w' => e = .returned (.bool true) ∧ ∃ m, w' = w.drewN m := by
  have H := Lib.hid h
  have H' := Lib.hid h'
  clear h h'
  go_enter Try.func22, Try.ntmps22
  go_wp2_with fail
  go_loopw [5] (fun i wr => ∃ (k m : Nat), k ≤ n ∧ i = .int .i64 k ∧ wr = w.drewN m) (fun i _ => n - (intOf i).toNat)
  case atStart => exact ⟨0, 0, Nat.zero_le _, rfl, rfl⟩
  case round =>
    obtain ⟨k, m, hk, rfl, rfl⟩ := hrel
    by_cases hlt : k < n
    · obtain ⟨b, o, rfl, hc⟩ := H.out.2 (by omega)
      obtain ⟨b', o', rfl, hc'⟩ := H'.out.2 (by omega)
      have c1 := hc k hlt
      have c2 := hc' k hlt
      clear hc hc' H H'
      go_wp2
      go_quiet (fail)
      go_wp2
      go_roundw
      case rel => exact ⟨k + 1, _, by omega, by go_num, by first | rfl | exact World.drewN_drewN _ _ _⟩
      case measure => simp [intOf]; omega
    · obtain rfl : k = n := by omega
      go_wp2
      go_ret
      exact ⟨rfl, _, rfl⟩
end Go.Proofs.Ytgjaknfphokjpaa
