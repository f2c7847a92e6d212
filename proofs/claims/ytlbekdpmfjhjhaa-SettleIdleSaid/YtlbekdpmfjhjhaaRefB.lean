/- Contracts of the document's plain numbers, part two: differences, comparisons and doublings of sizes in twelve digits. -/
import Derived.Test.YtlbekdpmfjhjhaaRef
namespace Go.Proofs.Ytlbekdpmfjhjhaa
open Go.RowKit

set_option maxHeartbeats 1000000 in
theorem minus_any (A B : Int) (w : World) :
    Calls Try.prog 30 #[.agg (ar (dgs A)), .agg (ar (dgs B))] w fun e w' => e = .returned (.agg (ar (dgs (A - B)))) ∧ Quiet w w' := by
  go_enter Try.func30, Try.ntmps30
  go_wp2
  go_loopw [5, 6] (fun c i wr => ∃ k : Nat, k ≤ 12 ∧ i = .int .i64 k ∧ c = .int .u64 (Rf.bc A B k) ∧ Row wr w.heap.size 45 (ar (mix k (dgs (A - B)) (dgs A))) ∧ Row wr (w.heap.size + 1) 45 (ar (dgs B)) ∧
      Row wr (w.heap.size + 1 + 1) 45 zs12 ∧ Quiet w wr) (fun _ i _ => 12 - (intOf i).toNat)
  case atStart =>
    refine ⟨0, by omega, rfl, by rw [Rf.bc_zero], ?_, ?_, ?_, ?_⟩
    · rw [mix_zero]; exact ((Row.new w _ _).alloc _).alloc _
    · exact (Row.at_ (w.alloc _) _ _ (by simp)).alloc _
    · exact Row.at_ ((w.alloc _).alloc _) _ _ (by simp)
    · exact (((Quiet.refl w).alloc _ _).alloc _ _).alloc _ _
  case round =>
    obtain ⟨k, hk, rfl, rfl, r1, r2, r3, hq⟩ := hrel
    by_cases hlt : k < 12
    · have c1 := r1.cell k hlt
      rw [mix_at] at c1
      have c2 := r2.cell k hlt
      have f1 := r1.free k
      have b1 := Rf.bc_bd A B k
      have b2 := dgs_bd A k
      have b3 := dgs_bd B k
      have R1 := Lib.hid r1
      have R2 := Lib.hid r2
      have R3 := Lib.hid r3
      have HQ := Lib.hid hq
      have e0 : 65536 + dgs A k - dgs B k - Rf.bc A B k = 65536 + (Rf.dg A k - Rf.dg B k - Rf.bc A B k) := by unfold dgs; omega
      have E1 : Hid (Rf.bc A B (k + 1) = 1 - (65536 + dgs A k - dgs B k - Rf.bc A B k) / 65536) := by
        refine Lib.hid ?_
        rw [e0, Rf.bc_succ, (Rf.borrow _).2]
      have E2 : Hid ((65536 + dgs A k - dgs B k - Rf.bc A B k) % 65536 = dgs (A - B) k) := by
        refine Lib.hid ?_
        rw [e0, (Rf.borrow _).1]
        exact (Rf.dg_sub A B k).symm
      clear r1 r2 r3 hq e0
      go_wp2
      go_quiet (fail)
      go_wp2
      go_roundw
      case rel =>
        refine ⟨k + 1, by omega, by go_num, by rw [E1.out], ?_, ?_, ?_, ?_⟩
        · rw [← mix_put k (dgs (A - B)) (dgs A) E2.out]; exact (R1.out.drewN nq).put k _
        · exact (R2.out.drewN nq).far (by omega) _
        · exact (R3.out.drewN nq).far (by omega) _
        · exact (HQ.out.drewN nq).setCell (Nat.le_refl _) _
      case measure => simp [intOf]; omega
    · obtain rfl : k = 12 := by omega
      rw [mix_all] at r1
      have h2 : w.heap.size + 1 + 1 < wr.heap.size := r3.lt
      go_wp2_with (first
        | (refine wpList_load_row rfl 45 _ rfl w.heap.size rfl 45 _ (0, 0) _ r1 Try.underlying45 rfl (by kernel_rfl) ?_)
        | (refine wpList_store_row rfl 45 _ _ rfl (w.heap.size + 1 + 1) _ rfl rfl 45 _ r3 (by kernel_rfl) rfl (ar_one _) ?_))
      exact bodyPost_ret (v := .agg (ar (dgs (A - B)))) (results_cell_row rfl _ _ (w.heap.size + 1 + 1) 45 _ (0, 0) _ rfl (r3.whole _) Try.underlying45 rfl (by kernel_rfl)) rfl
        ⟨rfl, hq.setRow r3 (by omega) _⟩

/-- Is the first the smaller one? -/
def ltB (A B : Int) : Bool := decide (A < B)

set_option maxHeartbeats 1000000 in
theorem less_any (A B : Int) (hA : 0 ≤ A) (hB : 0 ≤ B) (hA1 : A < Rf.T 12) (hB1 : B < Rf.T 12) (w : World) :
    Calls Try.prog 29 #[.agg (ar (dgs A)), .agg (ar (dgs B))] w fun e w' => e = .returned (.bool (ltB A B)) ∧ Quiet w w' := by
  have h12 := Lib.hid ((Rf.small hA hA1).trans (Rf.small hB hB1).symm)
  clear hA hB hA1 hB1
  go_enter Try.func29, Try.ntmps29
  go_wp2
  go_loopw [5] (fun i wr => ∃ k : Nat, k ≤ 12 ∧ i = .int .i64 ((k : Int) - 1) ∧ A / Rf.T k = B / Rf.T k ∧ Row wr w.heap.size 45 (ar (dgs A)) ∧ Row wr (w.heap.size + 1) 45 (ar (dgs B)) ∧ Quiet w wr)
    (fun i _ => (intOf i + 1).toNat)
  case atStart =>
    refine ⟨12, by omega, rfl, h12.out, ?_, ?_, ?_⟩
    · exact (Row.new w _ _).alloc _
    · exact Row.at_ (w.alloc _) _ _ (by simp)
    · exact ((Quiet.refl w).alloc _ _).alloc _ _
  case round =>
    obtain ⟨k, hk, rfl, hT, r1, r2, hq⟩ := hrel
    have HT := Lib.hid hT
    have HQ := Lib.hid hq
    clear hT hq
    match k, hk, HT with
    | 0, _, HT =>
      have E : Hid (ltB A B = false) := Lib.hid (by
        have := HT.out
        rw [Rf.at_zero, Rf.at_zero] at this
        subst this
        exact decide_eq_false (Int.lt_irrefl _))
      rw [show ((0 : Nat) : Int) - 1 = -1 from rfl]
      clear r1 r2 HT h12
      go_wp2
      go_ret
      exact ⟨retB E.out.symm, HQ.out⟩
    | j + 1, hk, HT =>
      rw [show ((j + 1 : Nat) : Int) - 1 = (j : Int) from by omega]
      have c1 := r1.cell j (by omega)
      have c2 := r2.cell j (by omega)
      have R1 := Lib.hid r1
      have R2 := Lib.hid r2
      have E : Hid (dgs A j = dgs B j → A / Rf.T j = B / Rf.T j) := Lib.hid fun h => Rf.same_up HT.out h
      have F : Hid (dgs A j ≠ dgs B j → decide (dgs A j < dgs B j) = ltB A B) := Lib.hid fun h => by
        rcases Int.lt_or_lt_of_ne h with h | h
        · have := Rf.less_at HT.out h
          unfold ltB; rw [decide_eq_true this, decide_eq_true h]
        · have := Rf.less_at HT.out.symm h
          unfold ltB; rw [decide_eq_false (by omega), decide_eq_false (by omega)]
      have b2 := dgs_bd A j
      have b3 := dgs_bd B j
      clear r1 r2 h12 HT
      cases hd : (dgs A j != dgs B j)
      · have e := E.out (by simpa using hd)
        have E' := Lib.hid e
        clear e
        go_wp2
        go_quiet (fail)
        go_wp2
        go_roundw
        case rel => exact ⟨j, by omega, by go_num, E'.out, R1.out.drewN nq, R2.out.drewN nq, HQ.out.drewN nq⟩
        case measure => simp [intOf]
      · have F' := Lib.hid (F.out (by simpa using hd))
        go_wp2
        go_quiet (fail)
        go_wp2
        go_quiet (fail)
        go_wp2
        go_ret
        exact ⟨retB F'.out, (HQ.out.drewN _).drewN _⟩

/-! ### Twice a size, and a bit -/
theorem two_carry (A b : Int) (hb : 0 ≤ b ∧ b ≤ 1) (k : Nat) : 0 ≤ (2 * Rf.md A k + b) / Rf.T k ∧ (2 * Rf.md A k + b) / Rf.T k ≤ 1 := by
  have a := Rf.md_bd A k
  have h : (2 * Rf.md A k + b) / Rf.T k < 2 := Int.ediv_lt_of_lt_mul (Rf.T_pos k) (by omega)
  exact ⟨Int.ediv_nonneg (by omega) (by omega), by omega⟩
/-- The carry into digit k. -/
def tc (A b : Int) (k : Nat) : Int := (2 * Rf.md A k + b) / Rf.T k
theorem tc_zero (A b : Int) : tc A b 0 = b := by unfold tc; rw [Rf.md_zero, Rf.T_zero]; omega
theorem tc_bd (A b : Int) (hb : 0 ≤ b ∧ b ≤ 1) (k : Nat) : 0 ≤ tc A b k ∧ tc A b k ≤ 1 := two_carry A b hb k
theorem tc_succ (A b : Int) (k : Nat) : tc A b (k + 1) = (tc A b k + 2 * dgs A k) / 65536 := by
  unfold tc dgs
  rw [Rf.md_succ, show 2 * (Rf.md A k + Rf.T k * Rf.dg A k) + b = (2 * Rf.md A k + b) + Rf.T k * (2 * Rf.dg A k) by rw [Int.mul_add, Int.mul_left_comm]; omega, Rf.step]
theorem tc_dg (A b : Int) (k : Nat) : (tc A b k + 2 * dgs A k) % 65536 = dgs (2 * A + b) k := by
  have a := Rf.split A k
  have e : 2 * A + b = (2 * Rf.md A k + b) + Rf.T k * (2 * (A / Rf.T k)) := by rw [Int.mul_left_comm]; omega
  have h : (2 * A + b) / Rf.T k = tc A b k + 2 * (A / Rf.T k) := by unfold tc; rw [← Rf.quo, ← e]
  unfold dgs Rf.dg
  rw [h]; omega

set_option maxHeartbeats 1000000 in
theorem shifted_any (A b : Int) (hb : 0 ≤ b ∧ b ≤ 1) (w : World) :
    Calls Try.prog 44 #[.agg (ar (dgs A)), .int .u64 b] w fun e w' => e = .returned (.agg (ar (dgs (2 * A + b)))) ∧ Quiet w w' := by
  go_enter Try.func44, Try.ntmps44
  go_wp2
  go_loopw [1, 5] (fun c i wr => ∃ k : Nat, k ≤ 12 ∧ i = .int .i64 k ∧ c = .int .u64 (tc A b k) ∧ Row wr w.heap.size 45 (ar (mix k (dgs (2 * A + b)) (dgs A))) ∧
      Row wr (w.heap.size + 1) 45 zs12 ∧ Quiet w wr) (fun _ i _ => 12 - (intOf i).toNat)
  case atStart =>
    refine ⟨0, by omega, rfl, by rw [tc_zero], ?_, ?_, ?_⟩
    · rw [mix_zero]; exact (Row.new w _ _).alloc _
    · exact Row.at_ (w.alloc _) _ _ (by simp)
    · exact ((Quiet.refl w).alloc _ _).alloc _ _
  case round =>
    obtain ⟨k, hk, rfl, rfl, r1, r3, hq⟩ := hrel
    by_cases hlt : k < 12
    · have c1 := r1.cell k hlt
      rw [mix_at] at c1
      have f1 := r1.free k
      have b1 := tc_bd A b hb k
      have b2 := dgs_bd A k
      have R1 := Lib.hid r1
      have R3 := Lib.hid r3
      have HQ := Lib.hid hq
      have E1 := Lib.hid (tc_succ A b k)
      have E2 := Lib.hid (tc_dg A b k)
      clear r1 r3 hq
      go_wp2
      go_roundw
      case rel =>
        refine ⟨k + 1, by omega, by go_num, by rw [E1.out], ?_, ?_, ?_⟩
        · rw [← mix_put k (dgs (2 * A + b)) (dgs A) E2.out]; exact R1.out.put k _
        · exact R3.out.far (by omega) _
        · exact HQ.out.setCell (Nat.le_refl _) _
      case measure => simp [intOf]; omega
    · obtain rfl : k = 12 := by omega
      rw [mix_all] at r1
      have h2 : w.heap.size + 1 < wr.heap.size := r3.lt
      go_wp2_with (first
        | (refine wpList_load_row rfl 45 _ rfl w.heap.size rfl 45 _ (0, 0) _ r1 Try.underlying45 rfl (by kernel_rfl) ?_)
        | (refine wpList_store_row rfl 45 _ _ rfl (w.heap.size + 1) _ rfl rfl 45 _ r3 (by kernel_rfl) rfl (ar_one _) ?_))
      exact bodyPost_ret (v := .agg (ar (dgs (2 * A + b)))) (results_cell_row rfl _ _ (w.heap.size + 1) 45 _ (0, 0) _ rfl (r3.whole _) Try.underlying45 rfl (by kernel_rfl)) rfl
        ⟨rfl, hq.setRow r3 (by omega) _⟩
end Go.Proofs.Ytlbekdpmfjhjhaa
