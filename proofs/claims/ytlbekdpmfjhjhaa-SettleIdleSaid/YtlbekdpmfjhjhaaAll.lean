/- The walk of the statement FixnumAll: it returns true for every list of int64 numbers, and leaves the memory that was there as it was. -/
import Derived.Test.YtlbekdpmfjhjhaaSum
import Derived.OpenShut
namespace Go.Proofs.Ytlbekdpmfjhjhaa
open Go.RowKit

/-- The sum of none, wherever the list lies. -/
theorem sum_zero (A : Option Addr) (c : Nat) (w : World) :
    Calls Try.prog 26 #[.slice A 0 c] w fun e w' => e = .returned (.tuple #[.int .i64 0, .int .i64 0]) ∧ w = w' := by
  go_enter Try.func26, Try.ntmps26
  go_wp2
  go_loop [4, 5, 6, 11] (fun h l _ i => i = .int .i64 0 ∧ h = .int .u64 0 ∧ l = .int .u64 0) (fun _ _ _ _ => 0)
  case atStart => exact ⟨rfl, rfl, rfl⟩
  case round =>
    obtain ⟨rfl, rfl, rfl⟩ := hrel
    go_wp2_with (go_at_call 38; refine (upper_any 0 (by unfold I64; omega) _).mono ?_; rintro e w' ⟨rfl, rfl⟩)
    go_ret2
    exact ⟨rfl, rfl⟩
set_option maxHeartbeats 1000000 in
theorem sumn_zero (A : Option Addr) (c : Nat) (w : World) :
    Calls Try.prog 31 #[.slice A 0 c] w fun e w' => e = .returned (.agg (nm false (dgs 0))) ∧ Quiet w w' := by
  go_enter Try.func31, Try.ntmps31
  go_wp2_with fail
  refine (of_zero _).mono ?_; rintro e w1 ⟨rfl, hq1⟩
  have hlt1 : w.heap.size < w1.heap.size := by have := hq1.2.size; simp at this; omega
  have r0 : Row w1 w.heap.size 47 (nm false fun _ => 0) := (Row.new w 47 (nm false fun _ => 0)).below hq1.2 (by simp)
  have HQ1 := Lib.hid (((Quiet.refl w).alloc (nm false fun _ => 0) 47).trans hq1)
  have R0 := Lib.hid r0
  clear hq1 r0
  go_wp2_with (refine wl_store_nm w1.heap.size false false (dgs 0) (fun _ => 0) ?_ ?_ ?_ ?_; rfl; rfl; exact Row.new w1 47 (nm false fun _ => 0))
  have rn := Row.new w1 47 (nm false fun _ => 0)
  have RA := Lib.hid (rn.whole (nm false (dgs 0)))
  have RB := Lib.hid ((R0.out.alloc (.cells (nm false fun _ => 0) 47)).apart (g' := w1.heap.size) (by omega) (nm false (dgs 0)))
  have RQ := Lib.hid ((HQ1.out.alloc _ _).setRow rn (by omega) (nm false (dgs 0)))
  clear rn HQ1 R0
  obtain ⟨W, hW⟩ : ∃ W, W = (w1.alloc (.cells (nm false fun _ => 0) 47)).setRow w1.heap.size (nm false (dgs 0)) := ⟨_, rfl⟩
  rw [← hW] at RA RB RQ
  go_loopw [4] (fun i wr => i = .int .i64 0 ∧ wr = W) (fun _ _ => 0)
  case atStart => exact ⟨rfl, hW.symm⟩
  case round =>
    obtain ⟨rfl, rfl⟩ := hrel
    clear hW
    go_wp2_with (first
      | (refine wl_load_nm w1.heap.size false (dgs 0) ?_ ?_ ?_; rfl; exact RA.out)
      | (refine wl_store_nm w.heap.size false false (dgs 0) (fun _ => 0) ?_ ?_ ?_ ?_; rfl; rfl; exact RB.out))
    exact bodyPost_ret (v := .agg (nm false (dgs 0))) (results_cell_row rfl _ _ w.heap.size 47 _ (0, 0) _ rfl (RB.out.whole _) Try.underlying47 rfl (by kernel_rfl)) rfl
      ⟨rfl, RQ.out.setRow RB.out (Nat.le_refl _) _⟩

/-- Where a list of numbers lies: anywhere, if it is empty; else in a row of cells. -/
def Rd (w : World) (A : Option Addr) (n : Nat) (zs : List Int) : Prop :=
  zs.length = n ∧ (0 < n → ∃ b o, A = some ⟨b, o, none⟩ ∧ ∀ j, j < n → w.cell? ⟨b, o + j, none⟩ = some (.int .i64 (zs.getD j 0)))
theorem Rd.below {w w' : World} {A : Option Addr} {n : Nat} {zs : List Int} (h : Rd w A n zs) (b : Below w.heap.size w w') : Rd w' A n zs :=
  ⟨h.1, fun hn => by
    obtain ⟨bl, o, e, hc⟩ := h.2 hn
    exact ⟨bl, o, e, fun j hj => (b.cell (p := ⟨bl, o + j, none⟩) (World.block_lt_of_cell? w _ (hc j hj))).trans (hc j hj)⟩⟩

theorem fsum_any (A : Option Addr) (n c : Nat) (zs : List Int) (w : World) (h : Rd w A n zs) (hbig : n ≤ 1152921504606846975) (hr : ∀ n, n ∈ zs → I64 n) :
    Calls Try.prog 26 #[.slice A n c] w fun e w' => e = .returned (.tuple #[.int .i64 (tN (sm zs)), .int .i64 (tE (sm zs))]) ∧ w = w' := by
  rcases Nat.eq_zero_or_pos n with h0 | h0
  · subst h0
    have : zs = [] := List.eq_nil_of_length_eq_zero h.1
    subst this
    exact sum_zero A c w
  · obtain ⟨b, o, rfl, hc⟩ := h.2 h0
    exact sum_any b o n c zs w h.1 (by omega) hr hc
theorem rsum_num (A : Option Addr) (n c : Nat) (zs : List Int) (w : World) (h : Rd w A n zs) (hbig : n ≤ 1152921504606846975) (hr : ∀ n, n ∈ zs → I64 n) :
    Calls Try.prog 31 #[.slice A n c] w fun e w' => IsNum (sm zs) (9223372036854775808 * (n : Int)) e ∧ Quiet w w' := by
  rcases Nat.eq_zero_or_pos n with h0 | h0
  · subst h0
    have : zs = [] := List.eq_nil_of_length_eq_zero h.1
    subst this
    refine (sumn_zero A c w).mono ?_
    rintro e w' ⟨rfl, hq⟩
    exact ⟨⟨false, 0, rfl, Int.le_refl 0, by decide, rfl⟩, hq⟩
  · obtain ⟨b, o, rfl, hc⟩ := h.2 h0
    exact sum_num b o n c zs w h.1 hbig hr hc
theorem big12 (n : Nat) (h : n ≤ 1152921504606846975) : 9223372036854775808 * (n : Int) < Rf.T 12 := by
  have : (10633823966279326992483775380034977792 : Int) < Rf.T 12 := by decide
  omega















































end Go.Proofs.Ytlbekdpmfjhjhaa
