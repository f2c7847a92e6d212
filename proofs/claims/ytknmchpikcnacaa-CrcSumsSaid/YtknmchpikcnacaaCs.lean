/- Contracts of the document's plain sums: Sum, More, Join. -/
import Derived.Test.YtknmchpikcnacaaCr
import Derived.Laws.OwnMore
import Derived.Laws.MakeOwn
namespace Go.Proofs.Ytknmchpikcnacaa
open Go.RowKit

theorem not_any (a : Nat) (h : a < 4294967296) : bits .xor .u32 IntKind.u32.max (a : Int) = ((Cr.M ^^^ a : Nat) : Int) := xor_u32 Cr.M a Cr.M_lt h
theorem made_zeros (n : Nat) : (madeCells (Value.int .u8 0).cells (n * 1)).toList = (List.replicate n (0 : Int)).map (Value.int .u8) := by
  show (madeCells #[Value.int .u8 0] (n * 1)).toList = _
  rw [toList_madeCells_one, Nat.mul_one, List.map_replicate]

set_option maxRecDepth 100000 in
theorem rsum_any (n c : Nat) (A : Option Addr) (bs : List Int) (w : World) (h : RdB w A n bs) (hy : By bs) (hn : n ≤ 1000000) :
    Calls Try.prog 12 #[.slice A n c] w fun e w' => e = .returned (.int .u32 (Cr.cs bs)) ∧ w = w' := by
  have S := Lib.hid (rsteps_any Cr.M n c A bs w Cr.M_lt h hy hn)
  rw [show ((Cr.M : Nat) : Int) = 4294967295 from rfl] at S
  have hlt := Cr.st_lt Cr.M_lt bs
  have X := not_any _ hlt
  unfold Cr.cs
  obtain ⟨r, hr⟩ : ∃ r, Cr.st Cr.M bs = r := ⟨_, rfl⟩
  rw [hr] at S X ⊢
  clear h hy hr hlt
  go_enter Try.func12, Try.ntmps12
  go_wp2_with fail
  refine S.out.mono ?_; rintro e w1 ⟨rfl, rfl⟩
  go_wp2_with fail
  go_ret
  refine ⟨?_, rfl⟩
  rw [← X]
  rfl

set_option maxRecDepth 100000 in
theorem rmore_any (s n c : Nat) (A : Option Addr) (bs : List Int) (w : World) (hs : s < 4294967296) (h : RdB w A n bs) (hy : By bs) (hn : n ≤ 1000000) :
    Calls Try.prog 16 #[.int .u32 s, .slice A n c] w fun e w' => e = .returned (.int .u32 (Cr.M ^^^ Cr.st (Cr.M ^^^ s) bs : Nat)) ∧ w = w' := by
  have hns := Cr.not_lt hs
  have S := Lib.hid (rsteps_any (Cr.M ^^^ s) n c A bs w hns h hy hn)
  have hlt := Cr.st_lt hns bs
  have X := not_any _ hlt
  have Y := not_any s hs
  rw [← Y] at S
  obtain ⟨r, hr⟩ : ∃ r, Cr.st (Cr.M ^^^ s) bs = r := ⟨_, rfl⟩
  rw [hr] at S X ⊢
  have HX := Lib.hid X
  clear h hy hr hns X Y hlt
  go_enter Try.func16, Try.ntmps16
  go_wp2_with fail
  refine S.out.mono ?_; rintro e w1 ⟨rfl, rfl⟩
  go_wp2_with fail
  go_ret
  refine ⟨?_, rfl⟩
  rw [← HX.out]
  rfl

set_option maxRecDepth 100000 in
theorem rjoin_any (a b n : Nat) (w : World) (ha : a < 4294967296) (hb : b < 4294967296) (hn : n ≤ 1000000) :
    Calls Try.prog 14 #[.int .u32 a, .int .u32 b, .int .i64 n] w fun e w' => e = .returned (.tuple #[.int .u32 (Cr.run a (fun _ => false) (8 * n) ^^^ b : Nat), .int .i64 0]) ∧ Below w.heap.size w w' := by
  obtain ⟨i0, hi0, hz0, hz1, hz2⟩ := info_parts info_u8
  obtain ⟨W, hr, ho, hg⟩ := run_make_full (P := Try.prog) w w.heap.size 23 5 i0 (.int .u8 0) 1 Try.underlying23 hi0 hz0 hz1 .i64 .i64 n (by rw [hz2]; omega) (by unfold maxLen; omega) (Nat.le_refl _)
  rw [made_zeros] at ho
  have hrd : RdB W (some ⟨w.heap.size, 0, none⟩) n (List.replicate n 0) := ⟨by simp, fun _ => ⟨_, _, rfl, fun j hj => by
    rw [Nat.zero_add, ho.cellAt j (by omega)]
    simp [List.getD, hj]⟩⟩
  have B := Lib.hid ((Below.refl w.heap.size w).grown hg (Nat.le_refl _) (fun k hk => by cases hk))
  have S := Lib.hid (rsteps_any a n n _ _ W ha hrd (by intro x hx; have := List.eq_of_mem_replicate hx; omega) hn)
  rw [Cr.st_zeros] at S
  have hlt := Cr.run_lt ha (fun _ => false) (8 * n)
  obtain ⟨r, hre⟩ : ∃ r, Cr.run a (fun _ => false) (8 * n) = r := ⟨_, rfl⟩
  rw [hre] at S hlt ⊢
  have X := xor_u32 r b hlt hb
  clear ho hg hrd hre hlt
  go_enter Try.func14, Try.ntmps14
  go_wp2_with fail
  refine S.out.mono ?_; rintro e w1 ⟨rfl, rfl⟩
  go_wp2_with fail
  go_ret2
  exact ⟨rfl, B.out⟩
set_option maxRecDepth 100000 in
theorem rjoin_neg (a b n : Int) (w : World) (hn : n < 0) :
    Calls Try.prog 14 #[.int .u32 a, .int .u32 b, .int .i64 n] w fun e w' => e = .returned (.tuple #[.int .u32 0, .int .i64 2]) ∧ w = w' := by
  go_enter Try.func14, Try.ntmps14
  go_wp2
  go_ret2
  exact ⟨rfl, rfl⟩
end Go.Proofs.Ytknmchpikcnacaa
