/- Contracts of the program's own steps of a register (CRC-32). -/
import Derived.Test.YtknmchpikcnacaaCs
import Derived.Test.YtknmchpikcnacaaCt
namespace Go.Proofs.Ytknmchpikcnacaa
open Go.RowKit

theorem stepB_odd {x : Nat} (h : x % 2 = 1) : Cr.step x false = x / 2 ^^^ Cr.P := by
  unfold Cr.step
  rw [if_neg (by simp [h])]
theorem stepB_even {x : Nat} (h : x % 2 ≠ 1) : Cr.step x false = x / 2 := by
  unfold Cr.step
  rw [if_pos (by simp [h])]
set_option maxRecDepth 100000 in
theorem step_any (x : Nat) (w : World) (hx : x < 4294967296) : Calls Try.prog 22 #[.int .u32 x] w fun e w' => e = .returned (.int .u32 (Cr.step x false)) ∧ w = w' := by
  by_cases h : x % 2 = 1
  · have hb : ((x : Int) % 2 == 1) = true := by simp; omega
    have S := Lib.hid (stepB_odd h)
    have hX := xor_u32 (x / 2) Cr.P (by omega) (by decide)
    rw [show ((x / 2 : Nat) : Int) = (x : Int) / 2 by omega, show ((Cr.P : Nat) : Int) = 3988292384 from rfl] at hX
    clear h
    go_enter Try.func22, Try.ntmps22
    go_wp2
    go_ret
    refine ⟨?_, rfl⟩
    rw [S.out]
    rfl
  · have hb : ((x : Int) % 2 == 1) = false := by simp; omega
    have S := Lib.hid (stepB_even h)
    clear h
    go_enter Try.func22, Try.ntmps22
    go_wp2
    go_ret
    refine ⟨?_, rfl⟩
    rw [S.out]
    go_num
/-- The table of 256 steps, as far as it is made. -/
def tbl (k : Nat) : Array Value := ((List.range 256).map fun i => Value.int .u32 ((if i < k then Cr.run i Cr.zr 8 else 0 : Nat) : Int)).toArray
theorem tbl_size (k : Nat) : (tbl k).size = 256 := by simp [tbl]
theorem tbl_at (k i : Nat) (h : i < 256) : (tbl k)[i]? = some (.int .u32 ((if i < k then Cr.run i Cr.zr 8 else 0 : Nat) : Int)) := by
  simp [tbl, h]
theorem tbl_set (k : Nat) (h : k < 256) : (tbl k).setIfInBounds k (.int .u32 ((Cr.run k Cr.zr 8 : Nat) : Int)) = tbl (k + 1) := by
  refine Array.ext_getElem? fun i => ?_
  rw [Array.getElem?_setIfInBounds]
  by_cases e : k = i
  · subst e
    rw [if_pos rfl, if_pos (by rw [tbl_size]; exact h), tbl_at _ _ h, if_pos (Nat.lt_succ_self k)]
  · rw [if_neg e]
    by_cases hi : i < 256
    · rw [tbl_at _ _ hi, tbl_at _ _ hi]
      by_cases c : i < k
      · rw [if_pos c, if_pos (by omega)]
      · rw [if_neg c, if_neg (by omega)]
    · rw [Array.getElem?_eq_none (by rw [tbl_size]; omega), Array.getElem?_eq_none (by rw [tbl_size]; omega)]
theorem zero_table (w : World) : (zeroValue 44).run Try.prog w = .ok (.agg (tbl 0)) w := by kernel_rfl
theorem info_table : Option.map (fun x => x.size) (Try.prog.info? 44) = some 256 := by kernel_rfl

theorem below_row {base : Nat} {w W : World} {g : Nat} {cs : Array Value} (b : Below base w W) (h : base ≤ g) : Below base w (W.setRow g cs) :=
  ⟨b.os, b.tape, b.output, by
    have := b.size
    show w.heap.size ≤ (W.heap.modify g _).size
    rw [Array.size_modify]; exact this, fun i hi => (setRow_other W g i cs (by omega)).trans (b.block i hi)⟩
theorem one_table (k : Nat) : ((tbl k).all fun x => x.oneCell') = true := by simp [tbl, Value.oneCell']

set_option maxRecDepth 100000 in
theorem steps_any (w : World) : Calls Try.prog 20 #[] w fun e w' => e = .returned (.agg (tbl 256)) ∧ Below w.heap.size w w' := by
  have Z := zero_table
  have ST := Lib.hid (fun (x : Nat) (W : World) (h : x < 4294967296) => step_any x W h)
  go_enter Try.func20, Try.ntmps20
  go_wp2_with fail
  clear Z
  go_loopw [4] (fun i wr => ∃ k : Nat, k ≤ 256 ∧ i = .int .i64 k ∧ wr = (w.alloc (.cells (tbl 0) 44)).alloc (.cells (tbl k) 44)) (fun i _ => 256 - (intOf i).toNat)
  case atStart => exact ⟨0, Nat.zero_le _, rfl, rfl⟩
  case round =>
    obtain ⟨k, hk, rfl, rfl⟩ := hrel
    by_cases hlt : k < 256
    case neg =>
      obtain rfl : k = 256 := by omega
      have HG := heap_alloc2_new w (.cells (tbl 0) 44) (.cells (tbl 256) 44)
      have HI : Option.map (fun x => x.size) (Try.prog.info? 44) = some (tbl 256).size := by rw [info_table, tbl_size]
      have HG0 := heap_alloc2_old w (.cells (tbl 0) 44) (.cells (tbl 256) 44)
      have HB := below_row (g := w.heap.size) (cs := tbl 256) (((Below.refl w.heap.size w).alloc (Nat.le_refl _) (.cells (tbl 0) 44)).alloc (one_alloc _ _) (.cells (tbl 256) 44)) (Nat.le_refl _)
      have HR := setRow_heap _ _ _ (tbl 256) _ _ HG0
      obtain ⟨W, hW⟩ : ∃ W, ((w.alloc (.cells (tbl 0) 44)).alloc (.cells (tbl 256) 44)) = W := ⟨_, rfl⟩
      rw [hW] at HG HG0 HB HR ⊢
      have HB2 := Lib.hid HB
      have HR2 := Lib.hid HR
      clear hW HB HR hk hlt
      go_wp2_with (first
        | (refine wpList_load_row rfl 44 (.tmp 1) rfl (w.heap.size + 1) rfl 44 (tbl 256) (0, 0) _ HG Try.underlying44 rfl HI ?_)
        | (refine wpList_store_row rfl 44 (.tmp 0) (.tmp 18) rfl w.heap.size (tbl 256) rfl rfl 44 (tbl 0) HG0 HI (by rw [tbl_size, tbl_size]) (one_table 256) ?_))
      refine bodyPost_ret (results_cell_row rfl _ _ w.heap.size 44 (tbl 256) (0, 0) _ rfl HR2.out Try.underlying44 rfl HI) rfl ⟨rfl, HB2.out⟩
    case pos =>
      have hd : decide ((k : Int) < 256) = true := decide_eq_true (by omega)
      go_wp2_with fail
      go_loop [3, 9] (fun r j => ∃ m : Nat, m ≤ 8 ∧ j = .int .i64 m ∧ r = .int .u32 (Cr.run k Cr.zr m)) (fun _ j => 8 - (intOf j).toNat)
      case atStart => exact ⟨0, Nat.zero_le _, rfl, rfl⟩
      case round =>
        obtain ⟨m, hm, rfl, rfl⟩ := hrel
        have hr := Cr.run_lt (x := k) (by omega) Cr.zr m
        by_cases hlt2 : m < 8
        case pos =>
          go_wp2_with fail
          refine (ST.out _ _ hr).mono ?_; rintro e w1 ⟨rfl, rfl⟩
          go_wp2_with fail
          go_round
          case rel => exact ⟨m + 1, hlt2, by go_num, rfl⟩
          case measure => simp [intOf]; omega
        case neg =>
          obtain rfl : m = 8 := by omega
          have HT := tbl_at k k hlt
          have HS := Lib.hid (tbl_set k hlt)
          clear hk
          go_wp2_with fail
          go_roundw
          case rel => exact ⟨k + 1, hlt, by go_num, by rw [HS.out]⟩
          case measure => simp [intOf]; omega
end Go.Proofs.Ytknmchpikcnacaa
