/- Texts of a proof, laid together: RefB, RefC, RefD, RefE, RefF, Sum. -/
import Derived.Deep.RegionHeld3
import Derived.Test.YtpfhkmppbochnaaG03
/- Contracts of the document's plain numbers, part two: differences, comparisons and doublings of sizes in twelve digits. -/
namespace Go.Proofs.Ytpfhkmppbochnaa
open Go.RowKit

set_option maxHeartbeats 1000000 in
theorem minus_any (A B : Int) (w : World) :
    Calls Try.prog 35 #[.agg (ar (dgs A)), .agg (ar (dgs B))] w fun e w' => e = .returned (.agg (ar (dgs (A - B)))) ∧ Quiet w w' := by
  go_enter Try.func35, Try.ntmps35
  go_wp2
  go_loopw [5, 6] (fun c i wr => ∃ k : Nat, k ≤ 12 ∧ i = .int .i64 k ∧ c = .int .u64 (Rf.bc A B k) ∧ Row wr w.heap.size 46 (ar (mix k (dgs (A - B)) (dgs A))) ∧ Row wr (w.heap.size + 1) 46 (ar (dgs B)) ∧
      Row wr (w.heap.size + 1 + 1) 46 zs12 ∧ Quiet w wr) (fun _ i _ => 12 - (intOf i).toNat)
  case atStart =>
    refine ⟨0, by omega, rfl, by rw [Rf.bc_zero], ?_, ?_, ?_, ?_⟩
    · rw [mix_zero]; exact ((Row.new w _ _).alloc _).alloc _
    · exact (Row.at_ (w.alloc _) _ _ (by simp)).alloc _
    · exact Row.at_ ((w.alloc _).alloc _) _ _ (by simp)
    · exact (((Quiet.refl w).alloc _ _).alloc _ _).alloc _ _
  case round =>
    obtain ⟨k, hk, rfl, rfl, r1, r2, r3, hq⟩ := hrel
    by_cases hlt : k < 12
    · have c1 := r1.cell k hlt
      rw [mix_at] at c1
      have c2 := r2.cell k hlt
      have f1 := r1.free k
      have b1 := Rf.bc_bd A B k
      have b2 := dgs_bd A k
      have b3 := dgs_bd B k
      have R1 := Lib.hid r1
      have R2 := Lib.hid r2
      have R3 := Lib.hid r3
      have HQ := Lib.hid hq
      have e0 : 65536 + dgs A k - dgs B k - Rf.bc A B k = 65536 + (Rf.dg A k - Rf.dg B k - Rf.bc A B k) := by unfold dgs; omega
      have E1 : Hid (Rf.bc A B (k + 1) = 1 - (65536 + dgs A k - dgs B k - Rf.bc A B k) / 65536) := by
        refine Lib.hid ?_
        rw [e0, Rf.bc_succ, (Rf.borrow _).2]
      have E2 : Hid ((65536 + dgs A k - dgs B k - Rf.bc A B k) % 65536 = dgs (A - B) k) := by
        refine Lib.hid ?_
        rw [e0, (Rf.borrow _).1]
        exact (Rf.dg_sub A B k).symm
      clear r1 r2 r3 hq e0
      go_wp2
      go_quiet (fail)
      go_wp2
      go_roundw
      case rel =>
        refine ⟨k + 1, by omega, by go_num, by rw [E1.out], ?_, ?_, ?_, ?_⟩
        · rw [← mix_put k (dgs (A - B)) (dgs A) E2.out]; exact (R1.out.drewN nq).put k _
        · exact (R2.out.drewN nq).far (by omega) _
        · exact (R3.out.drewN nq).far (by omega) _
        · exact (HQ.out.drewN nq).setCell (Nat.le_refl _) _
      case measure => simp [intOf]; omega
    · obtain rfl : k = 12 := by omega
      rw [mix_all] at r1
      have h2 : w.heap.size + 1 + 1 < wr.heap.size := r3.lt
      go_wp2_with (first
        | (refine wpList_load_row rfl 46 _ rfl w.heap.size rfl 46 _ (0, 0) _ r1 Try.underlying46 rfl (by kernel_rfl) ?_)
        | (refine wpList_store_row rfl 46 _ _ rfl (w.heap.size + 1 + 1) _ rfl rfl 46 _ r3 (by kernel_rfl) rfl (ar_one _) ?_))
      exact bodyPost_ret (v := .agg (ar (dgs (A - B)))) (results_cell_row rfl _ _ (w.heap.size + 1 + 1) 46 _ (0, 0) _ rfl (r3.whole _) Try.underlying46 rfl (by kernel_rfl)) rfl
        ⟨rfl, hq.setRow r3 (by omega) _⟩

/-- Is the first the smaller one? -/
def ltB (A B : Int) : Bool := decide (A < B)

set_option maxHeartbeats 1000000 in
theorem less_any (A B : Int) (hA : 0 ≤ A) (hB : 0 ≤ B) (hA1 : A < Rf.T 12) (hB1 : B < Rf.T 12) (w : World) :
    Calls Try.prog 26 #[.agg (ar (dgs A)), .agg (ar (dgs B))] w fun e w' => e = .returned (.bool (ltB A B)) ∧ Quiet w w' := by
  have h12 := Lib.hid ((Rf.small hA hA1).trans (Rf.small hB hB1).symm)
  clear hA hB hA1 hB1
  go_enter Try.func26, Try.ntmps26
  go_wp2
  go_loopw [5] (fun i wr => ∃ k : Nat, k ≤ 12 ∧ i = .int .i64 ((k : Int) - 1) ∧ A / Rf.T k = B / Rf.T k ∧ Row wr w.heap.size 46 (ar (dgs A)) ∧ Row wr (w.heap.size + 1) 46 (ar (dgs B)) ∧ Quiet w wr)
    (fun i _ => (intOf i + 1).toNat)
  case atStart =>
    refine ⟨12, by omega, rfl, h12.out, ?_, ?_, ?_⟩
    · exact (Row.new w _ _).alloc _
    · exact Row.at_ (w.alloc _) _ _ (by simp)
    · exact ((Quiet.refl w).alloc _ _).alloc _ _
  case round =>
    obtain ⟨k, hk, rfl, hT, r1, r2, hq⟩ := hrel
    have HT := Lib.hid hT
    have HQ := Lib.hid hq
    clear hT hq
    match k, hk, HT with
    | 0, _, HT =>
      have E : Hid (ltB A B = false) := Lib.hid (by
        have := HT.out
        rw [Rf.at_zero, Rf.at_zero] at this
        subst this
        exact decide_eq_false (Int.lt_irrefl _))
      rw [show ((0 : Nat) : Int) - 1 = -1 from rfl]
      clear r1 r2 HT h12
      go_wp2
      go_ret
      exact ⟨retB E.out.symm, HQ.out⟩
    | j + 1, hk, HT =>
      rw [show ((j + 1 : Nat) : Int) - 1 = (j : Int) from by omega]
      have c1 := r1.cell j (by omega)
      have c2 := r2.cell j (by omega)
      have R1 := Lib.hid r1
      have R2 := Lib.hid r2
      have E : Hid (dgs A j = dgs B j → A / Rf.T j = B / Rf.T j) := Lib.hid fun h => Rf.same_up HT.out h
      have F : Hid (dgs A j ≠ dgs B j → decide (dgs A j < dgs B j) = ltB A B) := Lib.hid fun h => by
        rcases Int.lt_or_lt_of_ne h with h | h
        · have := Rf.less_at HT.out h
          unfold ltB; rw [decide_eq_true this, decide_eq_true h]
        · have := Rf.less_at HT.out.symm h
          unfold ltB; rw [decide_eq_false (by omega), decide_eq_false (by omega)]
      have b2 := dgs_bd A j
      have b3 := dgs_bd B j
      clear r1 r2 h12 HT
      cases hd : (dgs A j != dgs B j)
      · have e := E.out (by simpa using hd)
        have E' := Lib.hid e
        clear e
        go_wp2
        go_quiet (fail)
        go_wp2
        go_roundw
        case rel => exact ⟨j, by omega, by go_num, E'.out, R1.out.drewN nq, R2.out.drewN nq, HQ.out.drewN nq⟩
        case measure => simp [intOf]
      · have F' := Lib.hid (F.out (by simpa using hd))
        go_wp2
        go_quiet (fail)
        go_wp2
        go_quiet (fail)
        go_wp2
        go_ret
        exact ⟨retB F'.out, (HQ.out.drewN _).drewN _⟩

/-! ### Twice a size, and a bit -/
theorem two_carry (A b : Int) (hb : 0 ≤ b ∧ b ≤ 1) (k : Nat) : 0 ≤ (2 * Rf.md A k + b) / Rf.T k ∧ (2 * Rf.md A k + b) / Rf.T k ≤ 1 := by
  have a := Rf.md_bd A k
  have h : (2 * Rf.md A k + b) / Rf.T k < 2 := Int.ediv_lt_of_lt_mul (Rf.T_pos k) (by omega)
  exact ⟨Int.ediv_nonneg (by omega) (by omega), by omega⟩
/-- The carry into digit k. -/
def tc (A b : Int) (k : Nat) : Int := (2 * Rf.md A k + b) / Rf.T k
theorem tc_zero (A b : Int) : tc A b 0 = b := by unfold tc; rw [Rf.md_zero, Rf.T_zero]; omega
theorem tc_bd (A b : Int) (hb : 0 ≤ b ∧ b ≤ 1) (k : Nat) : 0 ≤ tc A b k ∧ tc A b k ≤ 1 := two_carry A b hb k
theorem tc_succ (A b : Int) (k : Nat) : tc A b (k + 1) = (tc A b k + 2 * dgs A k) / 65536 := by
  unfold tc dgs
  rw [Rf.md_succ, show 2 * (Rf.md A k + Rf.T k * Rf.dg A k) + b = (2 * Rf.md A k + b) + Rf.T k * (2 * Rf.dg A k) by rw [Int.mul_add, Int.mul_left_comm]; omega, Rf.step]
theorem tc_dg (A b : Int) (k : Nat) : (tc A b k + 2 * dgs A k) % 65536 = dgs (2 * A + b) k := by
  have a := Rf.split A k
  have e : 2 * A + b = (2 * Rf.md A k + b) + Rf.T k * (2 * (A / Rf.T k)) := by rw [Int.mul_left_comm]; omega
  have h : (2 * A + b) / Rf.T k = tc A b k + 2 * (A / Rf.T k) := by unfold tc; rw [← Rf.quo, ← e]
  unfold dgs Rf.dg
  rw [h]; omega

set_option maxHeartbeats 1000000 in
theorem shifted_any (A b : Int) (hb : 0 ≤ b ∧ b ≤ 1) (w : World) :
    Calls Try.prog 34 #[.agg (ar (dgs A)), .int .u64 b] w fun e w' => e = .returned (.agg (ar (dgs (2 * A + b)))) ∧ Quiet w w' := by
  go_enter Try.func34, Try.ntmps34
  go_wp2
  go_loopw [1, 5] (fun c i wr => ∃ k : Nat, k ≤ 12 ∧ i = .int .i64 k ∧ c = .int .u64 (tc A b k) ∧ Row wr w.heap.size 46 (ar (mix k (dgs (2 * A + b)) (dgs A))) ∧
      Row wr (w.heap.size + 1) 46 zs12 ∧ Quiet w wr) (fun _ i _ => 12 - (intOf i).toNat)
  case atStart =>
    refine ⟨0, by omega, rfl, by rw [tc_zero], ?_, ?_, ?_⟩
    · rw [mix_zero]; exact (Row.new w _ _).alloc _
    · exact Row.at_ (w.alloc _) _ _ (by simp)
    · exact ((Quiet.refl w).alloc _ _).alloc _ _
  case round =>
    obtain ⟨k, hk, rfl, rfl, r1, r3, hq⟩ := hrel
    by_cases hlt : k < 12
    · have c1 := r1.cell k hlt
      rw [mix_at] at c1
      have f1 := r1.free k
      have b1 := tc_bd A b hb k
      have b2 := dgs_bd A k
      have R1 := Lib.hid r1
      have R3 := Lib.hid r3
      have HQ := Lib.hid hq
      have E1 := Lib.hid (tc_succ A b k)
      have E2 := Lib.hid (tc_dg A b k)
      clear r1 r3 hq
      go_wp2
      go_roundw
      case rel =>
        refine ⟨k + 1, by omega, by go_num, by rw [E1.out], ?_, ?_, ?_⟩
        · rw [← mix_put k (dgs (2 * A + b)) (dgs A) E2.out]; exact R1.out.put k _
        · exact R3.out.far (by omega) _
        · exact HQ.out.setCell (Nat.le_refl _) _
      case measure => simp [intOf]; omega
    · obtain rfl : k = 12 := by omega
      rw [mix_all] at r1
      have h2 : w.heap.size + 1 < wr.heap.size := r3.lt
      go_wp2_with (first
        | (refine wpList_load_row rfl 46 _ rfl w.heap.size rfl 46 _ (0, 0) _ r1 Try.underlying46 rfl (by kernel_rfl) ?_)
        | (refine wpList_store_row rfl 46 _ _ rfl (w.heap.size + 1) _ rfl rfl 46 _ r3 (by kernel_rfl) rfl (ar_one _) ?_))
      exact bodyPost_ret (v := .agg (ar (dgs (2 * A + b)))) (results_cell_row rfl _ _ (w.heap.size + 1) 46 _ (0, 0) _ rfl (r3.whole _) Try.underlying46 rfl (by kernel_rfl)) rfl
        ⟨rfl, hq.setRow r3 (by omega) _⟩
end Go.Proofs.Ytpfhkmppbochnaa
/- Contracts of the document's plain numbers, part three: a number with its sign, made from an int64, turned, and read back. -/
namespace Go.Proofs.Ytpfhkmppbochnaa
open Go.RowKit

/-- A sign and twelve digits, as cells. -/
def nm (s : Bool) (f : Nat → Int) : Array Value := #[.bool s, .int .u64 (f 0), .int .u64 (f 1), .int .u64 (f 2), .int .u64 (f 3), .int .u64 (f 4), .int .u64 (f 5), .int .u64 (f 6), .int .u64 (f 7), .int .u64 (f 8), .int .u64 (f 9), .int .u64 (f 10), .int .u64 (f 11)]
theorem nm_size (s : Bool) (f : Nat → Int) : (nm s f).size = 13 := rfl
theorem nm_get (s : Bool) (f : Nat → Int) (k : Nat) (h : k < 12) : (nm s f)[k + 1]? = some (.int .u64 (f k)) := by
  match k, h with
  | 0, _ => rfl
  | 1, _ => rfl
  | 2, _ => rfl
  | 3, _ => rfl
  | 4, _ => rfl
  | 5, _ => rfl
  | 6, _ => rfl
  | 7, _ => rfl
  | 8, _ => rfl
  | 9, _ => rfl
  | 10, _ => rfl
  | 11, _ => rfl
theorem nm_ext {s : Bool} {f g : Nat → Int} (h : ∀ k, k < 12 → f k = g k) : nm s f = nm s g := by
  unfold nm
  rw [h 0 (by omega), h 1 (by omega), h 2 (by omega), h 3 (by omega), h 4 (by omega), h 5 (by omega), h 6 (by omega), h 7 (by omega), h 8 (by omega), h 9 (by omega), h 10 (by omega), h 11 (by omega)]
theorem nm_set (s : Bool) (f : Nat → Int) (i : Nat) (v : Int) (h : i < 12) : (nm s f).setIfInBounds (i + 1) (.int .u64 v) = nm s (upd f i v) := by
  match i, h with
  | 0, _ => rfl
  | 1, _ => rfl
  | 2, _ => rfl
  | 3, _ => rfl
  | 4, _ => rfl
  | 5, _ => rfl
  | 6, _ => rfl
  | 7, _ => rfl
  | 8, _ => rfl
  | 9, _ => rfl
  | 10, _ => rfl
  | 11, _ => rfl
theorem nm_one (s : Bool) (f : Nat → Int) : (nm s f).all (·.oneCell') = true := by unfold nm; simp [Value.oneCell']
theorem Row.digit {w : World} {g : Nat} {t : TypeId} {s : Bool} {f : Nat → Int} (h : Row w g t (nm s f)) (k : Nat) (hk : k < 12) : w.cell? ⟨g, 1 + k, none⟩ = some (.int .u64 (f k)) := by
  rw [cell_of_row _ _ _ _ _ _ h, Nat.add_comm]; exact nm_get s f k hk
theorem Row.sign {w : World} {g : Nat} {t : TypeId} {s : Bool} {f : Nat → Int} (h : Row w g t (nm s f)) : w.cell? ⟨g, 0, none⟩ = some (.bool s) := by
  rw [cell_of_row _ _ _ _ _ _ h]; rfl
theorem Row.putN {w : World} {g : Nat} {t : TypeId} {s : Bool} {f : Nat → Int} (h : Row w g t (nm s f)) (i : Nat) (v : Int) (hi : i < 12) : Row (w.setCell ⟨g, 1 + i, none⟩ (.int .u64 v)) g t (nm s (upd f i v)) := by
  have := heap_setCell_same w g (1 + i) _ t (.int .u64 v) h
  rwa [Nat.add_comm 1 i, nm_set s f i v hi, Nat.add_comm i 1] at this

/-- A whole array out of the middle of a block. -/
theorem wpList_load_ar {P : Program} {ops : Array Oper} {rest : List Oper} {op : Oper} {a : Act} {w : World} {Q : Exit → Act → World → Prop} (hgd : op.guard = none) (ty : TypeId) (x : Operand) (ho : op.op = .load ty x)
    (b o : Nat) (hx : a.eval x = .pointer (some ⟨b, o, none⟩)) (f : Nat → Int) (d : TypeDesc) (hc : w.rangeAt b o (ar f).toList)
    (hu : P.underlying ty = some d) (hd : d.isRow = true) (hi : (P.info? ty).map (·.size) = some 12)
    (h : wpList P ops Q rest (a.put op.dst (.agg (ar f))) w) : wpList P ops Q (op :: rest) a w :=
  wpList_load_mid hgd ty x ho b o hx (ar f).toList d hc hu hd hi (by rw [Array.toArray_toList]; exact h)
theorem Row.range {w : World} {g : Nat} {t : TypeId} {s : Bool} {f : Nat → Int} (h : Row w g t (nm s f)) : w.rangeAt g 1 (ar f).toList := by
  intro j v hj
  have hlt : j < 12 := (List.getElem?_eq_some_iff.1 hj).1
  rw [h.digit j hlt, ← ar_get f j hlt]
  simpa using hj
theorem Row.range0 {w : World} {g : Nat} {t : TypeId} {f : Nat → Int} (h : Row w g t (ar f)) : w.rangeAt g 0 (ar f).toList := by
  intro j v hj
  have hlt : j < 12 := (List.getElem?_eq_some_iff.1 hj).1
  rw [Nat.zero_add, h.cell j hlt, ← ar_get f j hlt]
  simpa using hj

/-- Are all twelve digits 0? -/
def zf (f : Nat → Int) : Bool := f 0 == 0 && (f 1 == 0 && (f 2 == 0 && (f 3 == 0 && (f 4 == 0 && (f 5 == 0 && (f 6 == 0 && (f 7 == 0 && (f 8 == 0 && (f 9 == 0 && (f 10 == 0 && f 11 == 0))))))))))
theorem ite_z {w : World} {X : Result Bool} {b : Bool} (a : Int) (h : X = .ok b w) : (if a = 0 then X else Result.ok false w) = .ok (a == 0 && b) w := by
  by_cases e : a = 0
  · rw [if_pos e, h, e]; rfl
  · rw [if_neg e, show (a == 0) = false from by simpa using e]; rfl
theorem ite_l {w : World} (a : Int) : (if a = 0 then Result.ok true w else Result.ok false w) = .ok (a == 0) w := by
  by_cases e : a = 0
  · rw [if_pos e, e]; rfl
  · rw [if_neg e, show (a == 0) = false from by simpa using e]
set_option maxHeartbeats 1000000 in
theorem eq_zero (f : Nat → Int) (w : World) : (Op.equalIn 10000 46 (.agg (ar f)) (.agg zs12)).run Try.prog w = .ok (zf f) w := by
  have u3 := Try.underlying45
  have a3 := Try.isAgg45
  have z3 := Try.sizeOf45
  unfold ar zs12
  rw [show (10000 : Nat) = 9999 + 1 from rfl, Op.equalIn]
  simp only [Sem.run_bind, run_underlying Try.underlying46, Result.andThen_ok]
  simp only [Std.Legacy.Range.forIn_eq_forIn_range', Std.Legacy.Range.size, Nat.sub_zero, Nat.add_sub_cancel, Nat.div_one, List.range'_succ, List.range'_zero, List.forIn_cons, List.forIn_nil]
  go_simp
  unfold zf
  exact ite_z _ (ite_z _ (ite_z _ (ite_z _ (ite_z _ (ite_z _ (ite_z _ (ite_z _ (ite_z _ (ite_z _ (ite_z _ (ite_l _)))))))))))
theorem zf_of (N : Int) (h0 : 0 ≤ N) (h1 : N < Rf.T 12) : zf (dgs N) = decide (N = 0) := by
  by_cases e : N = 0
  · subst e; rfl
  · rw [decide_eq_false e]
    cases h : zf (dgs N)
    · rfl
    · exfalso
      unfold zf at h
      simp only [Bool.and_eq_true, beq_iff_eq] at h
      obtain ⟨a0, a1, a2, a3, a4, a5, a6, a7, a8, a9, a10, a11⟩ := h
      unfold dgs at a0 a1 a2 a3 a4 a5 a6 a7 a8 a9 a10 a11
      have b12 := Rf.small h0 h1
      have st : ∀ k, N / Rf.T (k + 1) = 0 → Rf.dg N k = 0 → N / Rf.T k = 0 := fun k h h' => by rw [Rf.div_dg, h, h']; rfl
      have b0 := st 0 (st 1 (st 2 (st 3 (st 4 (st 5 (st 6 (st 7 (st 8 (st 9 (st 10 (st 11 b12 a11) a10) a9) a8) a7) a6) a5) a4) a3) a2) a1) a0
      rw [Rf.at_zero] at b0
      exact e b0
theorem zero_any (s : Bool) (N : Int) (h0 : 0 ≤ N) (h1 : N < Rf.T 12) (w : World) :
    Calls Try.prog 22 #[.agg (nm s (dgs N))] w fun e w' => e = .returned (.bool (decide (N = 0))) ∧ Quiet w w' := by
  have hz := Lib.hid (zf_of N h0 h1)
  have he := fun W => eq_zero (dgs N) W
  unfold zs12 at he
  have hr := (Row.new w 48 (nm s (dgs N))).range
  clear h0 h1
  go_enter Try.func22, Try.ntmps22
  go_wp2_with (refine wpList_load_ar rfl 46 _ rfl w.heap.size 1 rfl (dgs N) _ hr Try.underlying46 rfl (by kernel_rfl) ?_)
  go_ret
  exact ⟨retB hz.out, (Quiet.refl w).alloc _ _⟩

theorem mixN_put (s : Bool) (k : Nat) (f g : Nat → Int) {v : Int} (h : v = f k) : nm s (upd (mix k f g) k v) = nm s (mix (k + 1) f g) := by
  refine nm_ext fun j _ => ?_
  unfold upd mix
  by_cases e : j = k
  · subst e; rw [if_pos rfl, if_pos (by omega), h]
  · rw [if_neg e]
    by_cases l : j < k
    · rw [if_pos l, if_pos (by omega)]
    · rw [if_neg l, if_neg (by omega)]
theorem of_step (M : Int) (k : Nat) : M / Rf.T k % 65536 = dgs M k ∧ M / Rf.T k / 65536 = M / Rf.T (k + 1) := ⟨rfl, (Rf.div_succ M k).symm⟩
theorem div_bd (M : Int) (k : Nat) (h0 : 0 ≤ M) : 0 ≤ M / Rf.T k ∧ M / Rf.T k ≤ M := by
  refine ⟨Int.ediv_nonneg h0 (Int.le_of_lt (Rf.T_pos k)), Int.ediv_le_self _ h0⟩
theorem high_zero (M : Int) (k : Nat) (h0 : 0 ≤ M) (h1 : M ≤ 9223372036854775808) (h : 4 ≤ k) : dgs M k = 0 := by
  unfold dgs Rf.dg
  have : M / Rf.T k = 0 := by
    refine Rf.small h0 ?_
    obtain ⟨m, rfl⟩ : ∃ m, k = 4 + m := ⟨k - 4, by omega⟩
    have h3 := Rf.T_pos m
    have h4 := Int.mul_le_mul_of_nonneg_left (show 1 ≤ Rf.T m by omega) (show 0 ≤ Rf.T 4 by decide)
    rw [Int.mul_one, ← Rf.T_add] at h4
    have h5 : Rf.T 4 = 18446744073709551616 := by decide
    omega
  rw [this]; rfl
theorem mix_of (s : Bool) (M : Int) (h0 : 0 ≤ M) (h1 : M ≤ 9223372036854775808) : nm s (mix 4 (dgs M) fun _ => 0) = nm s (dgs M) := nm_ext fun k _ => by
  unfold mix
  by_cases h : k < 4
  · rw [if_pos h]
  · rw [if_neg h, high_zero M k h0 h1 (by omega)]

set_option maxHeartbeats 2000000 in
theorem of_any (a : Int) (ha : I64 a) (w : World) :
    Calls Try.prog 23 #[.int .i64 a] w fun e w' => e = .returned (.agg (nm (decide (a < 0)) (dgs (mag a)))) ∧ Quiet w w' := by
  have hm := mag_bd a ha
  unfold I64 at ha
  obtain ⟨ha1, ha2⟩ := ha
  obtain ⟨M, hMe⟩ : ∃ M, mag a = M := ⟨_, rfl⟩
  rw [hMe] at hm ⊢
  obtain ⟨hm1, hm2⟩ := hm
  have HM := Lib.hid hMe
  clear hMe
  obtain ⟨s, hs⟩ : ∃ s, decide (a < 0) = s := ⟨_, rfl⟩
  rw [hs]
  have hM : (s = false ∧ (decide (a < 0) = false ∧ 0 ≤ a) ∧ a = M) ∨  (s = true ∧ a < 0 ∧ -(a + 1) + 1 = M) := by
    have := HM.out
    unfold mag at this
    by_cases h : a < 0
    · rw [if_pos h] at this
      exact .inr ⟨by rw [← hs]; exact decide_eq_true h, h, by omega⟩
    · rw [if_neg h] at this
      exact .inl ⟨by rw [← hs]; exact decide_eq_false h, ⟨decide_eq_false h, by omega⟩, this⟩
  clear HM hs
  rcases hM with ⟨rfl, ⟨hd, h⟩, he⟩ | ⟨rfl, h, he⟩
  all_goals
    have HE := Lib.hid he
    clear he
    go_enter Try.func23, Try.ntmps23
    go_wp2
  · go_loopw [3, 5] (fun n i wr => ∃ k : Nat, k ≤ 4 ∧ i = .int .i64 k ∧ n = .int .u64 (M / Rf.T k) ∧ Row wr w.heap.size 48 (nm false fun _ => 0) ∧
      Row wr (w.heap.size + 1) 48 (nm false (mix k (dgs M) fun _ => 0)) ∧ Quiet w wr) (fun _ i _ => 4 - (intOf i).toNat)
    case atStart => exact ⟨0, by omega, rfl, by rw [Rf.at_zero, ← HE.out], (Row.new w _ _).alloc _, by exact Row.at_ (w.alloc _) _ _ (by simp), ((Quiet.refl w).alloc _ _).alloc _ _⟩
    case round =>
      obtain ⟨k, hk, rfl, rfl, r1, r2, hq⟩ := hrel
      by_cases hlt : k < 4
      · have f1 := r2.free (1 + k)
        have c1 := r2.digit k (by omega)
        have b1 := div_bd M k hm1
        obtain ⟨b1, b2⟩ := b1
        have R1 := Lib.hid r1
        have R2 := Lib.hid r2
        have HQ := Lib.hid hq
        have E := Lib.hid (of_step M k)
        clear r1 r2 hq
        go_wp2
        go_roundw
        case rel =>
          refine ⟨k + 1, by omega, by go_num, by rw [E.out.2], R1.out.far (by omega) _, ?_, HQ.out.setCell (Nat.le_succ _) _⟩
          rw [← mixN_put false k (dgs M) (fun _ => 0) E.out.1]
          exact R2.out.putN k _ (by omega)
        case measure => simp [intOf]; omega
      · obtain rfl : k = 4 := by omega
        rw [mix_of _ M hm1 hm2] at r2
        go_wp2_with (first
          | (refine wpList_load_row rfl 48 _ rfl (w.heap.size + 1) rfl 48 _ (0, 0) _ r2 Try.underlying48 rfl (by kernel_rfl) ?_)
          | (refine wpList_store_row rfl 48 _ _ rfl w.heap.size _ rfl rfl 48 _ r1 (by kernel_rfl) rfl (nm_one _ _) ?_))
        exact bodyPost_ret (v := .agg (nm false (dgs M))) (results_cell_row rfl _ _ w.heap.size 48 _ (0, 0) _ rfl (r1.whole _) Try.underlying48 rfl (by kernel_rfl)) rfl
          ⟨rfl, hq.setRow r1 (Nat.le_refl _) _⟩
  · go_loopw [3, 5] (fun n i wr => ∃ k : Nat, k ≤ 4 ∧ i = .int .i64 k ∧ n = .int .u64 (M / Rf.T k) ∧ Row wr w.heap.size 48 (nm false fun _ => 0) ∧
      Row wr (w.heap.size + 1) 48 (nm true (mix k (dgs M) fun _ => 0)) ∧ Quiet w wr) (fun _ i _ => 4 - (intOf i).toNat)
    case atStart => exact ⟨0, by omega, rfl, by rw [Rf.at_zero, ← HE.out], (Row.new w _ _).alloc _, by exact Row.at_ (w.alloc _) _ _ (by simp), ((Quiet.refl w).alloc _ _).alloc _ _⟩
    case round =>
      obtain ⟨k, hk, rfl, rfl, r1, r2, hq⟩ := hrel
      by_cases hlt : k < 4
      · have f1 := r2.free (1 + k)
        have c1 := r2.digit k (by omega)
        have b1 := div_bd M k hm1
        obtain ⟨b1, b2⟩ := b1
        have R1 := Lib.hid r1
        have R2 := Lib.hid r2
        have HQ := Lib.hid hq
        have E := Lib.hid (of_step M k)
        clear r1 r2 hq
        go_wp2
        go_roundw
        case rel =>
          refine ⟨k + 1, by omega, by go_num, by rw [E.out.2], R1.out.far (by omega) _, ?_, HQ.out.setCell (Nat.le_succ _) _⟩
          rw [← mixN_put true k (dgs M) (fun _ => 0) E.out.1]
          exact R2.out.putN k _ (by omega)
        case measure => simp [intOf]; omega
      · obtain rfl : k = 4 := by omega
        rw [mix_of _ M hm1 hm2] at r2
        go_wp2_with (first
          | (refine wpList_load_row rfl 48 _ rfl (w.heap.size + 1) rfl 48 _ (0, 0) _ r2 Try.underlying48 rfl (by kernel_rfl) ?_)
          | (refine wpList_store_row rfl 48 _ _ rfl w.heap.size _ rfl rfl 48 _ r1 (by kernel_rfl) rfl (nm_one _ _) ?_))
        exact bodyPost_ret (v := .agg (nm true (dgs M))) (results_cell_row rfl _ _ w.heap.size 48 _ (0, 0) _ rfl (r1.whole _) Try.underlying48 rfl (by kernel_rfl)) rfl
          ⟨rfl, hq.setRow r1 (Nat.le_refl _) _⟩
end Go.Proofs.Ytpfhkmppbochnaa
/- Contracts of the document's plain numbers, part four: a number turned, and one read back as an int64 if it fits. -/
namespace Go.Proofs.Ytpfhkmppbochnaa
open Go.RowKit

/-- How a number is told. -/
theorem build_nm (b : Bool) (f : Nat → Int) : Try.prog.built 48 [(0, .bool b), (1, .agg (ar f))] = some (nm b f) := by kernel_rfl

/-! The laws of whole arrays and numbers, each with its operation written out, so that it is tried at no other. -/
section
variable {ops : Array Oper} {rest : List Oper} {a : Act} {w : World} {Q : Exit → Act → World → Prop} {d : Option Tmp} {ty : TypeId} {pos : String} {af : Array Edge}
theorem wl_build {x y : Operand} (b : Bool) (f : Nat → Int) (hx : a.eval x = .bool b) (hy : a.eval y = .agg (ar f)) (h : wpList Try.prog ops Q rest (a.put d (.agg (nm b f))) w) :
    wpList Try.prog ops Q ({ dst := d, op := .build 48 #[(0, x), (1, y)], type := ty, pos := pos, after := af, guard := none } :: rest) a w := by
  refine wpList_buildTo rfl 48 #[(0, x), (1, y)] rfl d rfl (nm b f) ?_ h
  rw [show ((#[(0, x), (1, y)] : Array (Nat × Operand)).map fun (i, x) => (i, a.eval x)).toList = [(0, a.eval x), (1, a.eval y)] from by simp, hx, hy]
  exact build_nm b f
theorem wl_load_ar {x : Operand} (b o : Nat) (f : Nat → Int) (hx : a.eval x = .pointer (some ⟨b, o, none⟩)) (hc : w.rangeAt b o (ar f).toList) (h : wpList Try.prog ops Q rest (a.put d (.agg (ar f))) w) :
    wpList Try.prog ops Q ({ dst := d, op := .load 46 x, type := ty, pos := pos, after := af, guard := none } :: rest) a w :=
  wpList_load_ar rfl 46 x rfl b o hx f _ hc Try.underlying46 rfl (by kernel_rfl) h
theorem wl_load_nm {x : Operand} (g : Nat) (s : Bool) (f : Nat → Int) (hx : a.eval x = .pointer (some ⟨g, 0, none⟩)) (r : Row w g 48 (nm s f)) (h : wpList Try.prog ops Q rest (a.put d (.agg (nm s f))) w) :
    wpList Try.prog ops Q ({ dst := d, op := .load 48 x, type := ty, pos := pos, after := af, guard := none } :: rest) a w :=
  wpList_load_row rfl 48 x rfl g hx 48 (nm s f) (0, 0) _ r Try.underlying48 rfl (by kernel_rfl) h
theorem wl_store_nm {x y : Operand} (g : Nat) (s s' : Bool) (f f' : Nat → Int) (hx : a.eval x = .pointer (some ⟨g, 0, none⟩)) (hy : a.eval y = .agg (nm s f)) (r : Row w g 48 (nm s' f')) (h : wpList Try.prog ops Q rest a (w.setRow g (nm s f))) :
    wpList Try.prog ops Q ({ dst := none, op := .store 48 x y, type := ty, pos := pos, after := af, guard := none } :: rest) a w :=
  wpList_store_row rfl 48 x y rfl g (nm s f) hx hy 48 _ r (by kernel_rfl) rfl (nm_one _ _) h
theorem wl_store_ar {x y : Operand} (g : Nat) (f f' : Nat → Int) (hx : a.eval x = .pointer (some ⟨g, 0, none⟩)) (hy : a.eval y = .agg (ar f)) (r : Row w g 46 (ar f')) (h : wpList Try.prog ops Q rest a (w.setRow g (ar f))) :
    wpList Try.prog ops Q ({ dst := none, op := .store 46 x y, type := ty, pos := pos, after := af, guard := none } :: rest) a w :=
  wpList_store_row rfl 46 x y rfl g (ar f) hx hy 46 _ r (by kernel_rfl) rfl (ar_one _) h
end


















/-- Whether a number fits. -/
def tO (x : Int) : Bool := decide (-9223372036854775808 ≤ x ∧ x ≤ 9223372036854775807)
theorem tO_in {x : Int} (h : I64 x) : tO x = true := decide_eq_true h
theorem tO_out {x : Int} (h : ¬ I64 x) : tO x = false := decide_eq_false h
theorem T4 : Rf.T 4 = 18446744073709551616 := by decide
theorem fits_T4 {N : Int} (h0 : 0 ≤ N) (h : N / Rf.T 4 = 0) : N < 18446744073709551616 := by
  have := Rf.split N 4
  have m := Rf.md_bd N 4
  rw [h, Int.mul_zero] at this
  rw [T4] at m
  omega
theorem big_T {N : Int} {j : Nat} (h0 : 0 ≤ N) (hj : 4 ≤ j) (h : N / Rf.T j ≠ 0) : 18446744073709551616 ≤ N := by
  rcases Int.lt_or_le N 18446744073709551616 with h' | h'
  · exfalso
    apply h
    refine Rf.small h0 ?_
    obtain ⟨m, rfl⟩ : ∃ m, j = 4 + m := ⟨j - 4, by omega⟩
    have h3 := Rf.T_pos m
    have h4 := Int.mul_le_mul_of_nonneg_left (show 1 ≤ Rf.T m by omega) (show 0 ≤ Rf.T 4 by decide)
    rw [Int.mul_one, ← Rf.T_add, T4] at h4
    omega
  · exact h'
theorem sgn_big (s : Bool) {N : Int} (h : 18446744073709551616 ≤ N) : ¬ I64 (sgn s N) := by
  unfold I64 sgn; split <;> omega
theorem ret2b {x x' : Int} {y y' : Bool} (h : x = x') (k : y = y') : Ending.returned (.tuple #[.int .i64 x, .bool y]) = Ending.returned (.tuple #[.int .i64 x', .bool y']) := by rw [h, k]

set_option maxHeartbeats 2000000 in
theorem int_any (s : Bool) (N : Int) (h0 : 0 ≤ N) (h1 : N < Rf.T 12) (w : World) :
    Calls Try.prog 21 #[.agg (nm s (dgs N))] w fun e w' => e = .returned (.tuple #[.int .i64 (tN (sgn s N)), .bool (tO (sgn s N))]) ∧ Quiet w w' := by
  have r0 := Row.new w 48 (nm s (dgs N))
  have H12 := Lib.hid (Rf.small h0 h1)
  have HZ := Lib.hid (fun W => zero_any s N h0 h1 W)
  have HR := Lib.hid r0
  clear h1 r0
  go_enter Try.func21, Try.ntmps21
  go_wp2_with fail
  go_loop [4, 5] (fun n i => ∃ k : Nat, k ≤ 12 ∧ i = .int .i64 ((k : Int) - 1) ∧ n = .int .u64 (N / Rf.T k) ∧ N / Rf.T (max k 4) = 0) (fun _ i => (intOf i + 1).toNat)
  case atStart => exact ⟨12, by omega, rfl, by rw [H12.out], H12.out⟩
  case round =>
    obtain ⟨k, hk, rfl, rfl, hT⟩ := hrel
    have HT := Lib.hid hT
    clear hT
    match k, hk, HT with
    | 0, _, HT =>
      rw [show ((0 : Nat) : Int) - 1 = -1 from rfl, Rf.at_zero]
      have hN := fits_T4 h0 HT.out
      clear H12
      have r0 := HR.out
      go_wp2_with (refine wpList_load_row rfl 48 _ rfl w.heap.size rfl 48 _ (0, 0) _ r0 Try.underlying48 rfl (by kernel_rfl) ?_)
      refine (HZ.out _).mono ?_; rintro e w1 ⟨rfl, hq⟩
      have r1 : Row w1 w.heap.size 48 (nm s (dgs N)) := r0.below hq.2 (by simp)
      have c0 := r1.sign
      have hq' := Lib.hid (((Quiet.refl w).alloc _ _).trans hq)
      clear hq r0 r1 HZ HR HT
      cases hz : decide (N = 0)
      · have hz' : 0 < N := by have : ¬ N = 0 := by simpa using hz
                               omega
        cases s
        · by_cases hb : N < 9223372036854775808
          · have I : I64 (sgn false N) := by unfold I64 sgn; simp; omega
            have E := Lib.hid I
            clear I
            go_wp2
            go_ret2
            exact ⟨ret2b (tN_in E.out).symm (tO_in E.out).symm, hq'.out⟩
          · have I : ¬ I64 (sgn false N) := by unfold I64 sgn; simp; omega
            have E := Lib.hid I
            clear I
            go_wp2
            go_ret2
            exact ⟨ret2b (tN_out E.out).symm (tO_out E.out).symm, hq'.out⟩
        · by_cases hb : N ≤ 9223372036854775808
          · have I : I64 (sgn true N) := by unfold I64 sgn; simp; omega
            have E := Lib.hid I
            clear I
            go_wp2
            go_ret2
            exact ⟨ret2b (by rw [tN_in E.out]; unfold sgn; simp; omega) (tO_in E.out).symm, hq'.out⟩
          · have I : ¬ I64 (sgn true N) := by unfold I64 sgn; simp; omega
            have E := Lib.hid I
            clear I
            go_wp2
            go_ret2
            exact ⟨ret2b (tN_out E.out).symm (tO_out E.out).symm, hq'.out⟩
      · have hz' : N = 0 := by simpa using hz
        have E : Hid (0 = tN (sgn s N) ∧ true = tO (sgn s N)) := Lib.hid (by subst hz'; cases s <;> exact ⟨rfl, rfl⟩)
        clear hz'
        go_wp2
        go_ret2
        exact ⟨ret2b E.out.1 E.out.2, hq'.out⟩
    | j + 1, hk, HT =>
      rw [show ((j + 1 : Nat) : Int) - 1 = (j : Int) from by omega]
      have c1 := HR.out.digit j (by omega)
      have b := dgs_bd N j
      obtain ⟨b1, b2⟩ := b
      have b3 := div_bd N (j + 1) h0
      obtain ⟨b3, b4⟩ := b3
      by_cases hj : 4 ≤ j
      · cases hd : (dgs N j != 0)
        · have E : Hid (N / Rf.T j = 0 ∧ N / Rf.T (j + 1) = 0 ∧ N / Rf.T (max j 4) = 0) := Lib.hid (by
            have h2 : N / Rf.T (j + 1) = 0 := by have := HT.out; rwa [show max (j + 1) 4 = j + 1 by omega] at this
            have h3 : N / Rf.T j = 0 := by rw [Rf.div_dg, h2, show Rf.dg N j = 0 from by (have : dgs N j = 0 := by simpa using hd); exact this]; rfl
            exact ⟨h3, h2, by rwa [show max j 4 = j by omega]⟩)
          rw [E.out.2.1]
          go_wp2
          go_round
          case rel => exact ⟨j, by omega, by go_num, by rw [E.out.1, show dgs N j = 0 from by simpa using hd], E.out.2.2⟩
          case measure => simp [intOf]
        · have hb : 18446744073709551616 ≤ N := big_T h0 hj (by
            intro h
            have hd' : dgs N j ≠ 0 := by simpa using hd
            apply hd'
            unfold dgs Rf.dg
            rw [h]; rfl)
          have E := Lib.hid (sgn_big s hb)
          clear hb
          go_wp2
          go_ret2
          exact ⟨ret2b (tN_out E.out).symm (tO_out E.out).symm, (Quiet.refl w).alloc _ _⟩
      · have hj' : j ≤ 3 := by omega
        have h4 := fits_T4 h0 (by have := HT.out; rwa [show max (j + 1) 4 = 4 by omega] at this)
        have hd := Rf.div_dg N j
        have h5 := div_bd N j h0
        have b5 : N / Rf.T (j + 1) * 65536 + dgs N j ≤ 18446744073709551615 := by unfold dgs; omega
        have E := Lib.hid hd
        have E4 := Lib.hid h4
        clear hd h5 h4
        go_wp2
        go_round
        case rel => exact ⟨j, by omega, by go_num, by rw [E.out]; rfl, by have := HT.out; rwa [show max (j + 1) 4 = max j 4 by omega] at this⟩
        case measure => simp [intOf]
end Go.Proofs.Ytpfhkmppbochnaa
/- Contracts of the document's plain numbers, part five: two numbers added, and one told as a call answers it. -/
namespace Go.Proofs.Ytpfhkmppbochnaa
open Go.RowKit

theorem Row.farCells {g b : Nat} {t : TypeId} {cs : Array Value} (hne : g ≠ b) : ∀ (vs : List Value) (o : Nat) (w : World), Row w g t cs → Row (w.setCells b o vs) g t cs
  | [], _, _, h => h
  | v :: vs, o, _, h => Row.farCells hne vs (o + 1) _ (h.far hne v)
theorem Quiet.setCells {a : World} {g : Nat} (hg : a.heap.size ≤ g) : ∀ (vs : List Value) (o : Nat) (w : World), Quiet a w → Quiet a (w.setCells g o vs)
  | [], _, _, h => h
  | v :: vs, o, _, h => Quiet.setCells hg vs (o + 1) _ (h.setCell hg v)
theorem Row.there {w : World} {g : Nat} {t : TypeId} {s : Bool} {f : Nat → Int} (h : Row w g t (nm s f)) : w.there g 0 13 := fun j hj => by
  rw [Nat.zero_add, cell_of_row _ _ _ _ _ _ h]
  exact ⟨by rw [Array.getElem?_eq_getElem (by rw [nm_size]; exact hj)]; rfl, h.free j⟩
theorem there_below {w w' : World} {B g n : Nat} (h : w.there g 0 n) (b : Below B w w') (hg : g < B) : w'.there g 0 n := fun j hj => by
  have k := h j hj
  rw [b.cell (p := ⟨g, 0 + j, none⟩) hg, b.frozen (p := ⟨g, 0 + j, none⟩) hg]
  exact k
theorem there_lt {w : World} {g n : Nat} (h : w.there g 0 (n + 1)) : g < w.heap.size := by
  obtain ⟨u, hu⟩ := Option.isSome_iff_exists.1 (h 0 (Nat.succ_pos n)).1
  exact World.block_lt_of_cell? w _ hu

/-- What stands in memory while two numbers are added: both, and the place of the answer. -/
structure PS (w : World) (s t : Bool) (f g : Nat → Int) (w' : World) : Prop where
  r1 : Row w' w.heap.size 48 (nm s f)
  r2 : Row w' (w.heap.size + 1) 48 (nm t g)
  r3 : w'.there (w.heap.size + 1 + 1) 0 13
  q : Quiet w w'
section
variable {w : World} {s t : Bool} {f g : Nat → Int} {a b : World}
theorem PS.quiet (h : PS w s t f g a) (k : Quiet a b) : PS w s t f g b :=
  ⟨h.r1.below k.2 h.r1.lt, h.r2.below k.2 h.r2.lt, there_below h.r3 k.2 (there_lt h.r3), h.q.trans k⟩
theorem PS.drew (h : PS w s t f g a) : PS w s t f g a.drew := ⟨h.r1, h.r2, h.r3, h.q.drew⟩
theorem PS.stored (h : PS w s t f g a) (vs : List Value) : PS w s t f g (a.setCells (w.heap.size + 1 + 1) 0 vs) :=
  ⟨h.r1.farCells (by omega) vs 0 a, h.r2.farCells (by omega) vs 0 a, World.there_setCells h.r3 _ _ _, h.q.setCells (by omega) vs 0 a⟩
/-- All that the region's operations read. -/
def PA (w : World) (s t : Bool) (f g : Nat → Int) (w' : World) : Prop :=
  w'.cell? ⟨w.heap.size, 0, none⟩ = some (.bool s) ∧ w'.cell? ⟨w.heap.size + 1, 0, none⟩ = some (.bool t) ∧ w'.rangeAt w.heap.size 1 (ar f).toList ∧ w'.rangeAt (w.heap.size + 1) 1 (ar g).toList ∧ w'.there (w.heap.size + 1 + 1) 0 13 ∧ PS w s t f g w'
theorem PS.all (h : PS w s t f g a) : PA w s t f g a := ⟨h.r1.sign, h.r2.sign, h.r1.range, h.r2.range, h.r3, h⟩
end

theorem yields_ar {ops : Array Oper} {S : World → Prop} {op : Oper} {a : Act} (hw : Region.wanted op (yielded ops a.tmps) = true) (x : Operand) (ho : op.op = .load 46 x)
    (b o : Nat) (hx : a.eval x = .pointer (some ⟨b, o, none⟩)) (f : Nat → Int) (hS : ∀ w, S w → w.rangeAt b o (ar f).toList) : YieldsIf Try.prog ops S op (.agg (ar f)) a := by
  have := yieldsIf_load_mid (P := Try.prog) hw 46 x ho b o hx (ar f).toList _ hS Try.underlying46 rfl (by kernel_rfl)
  rwa [Array.toArray_toList] at this

theorem yields_build {ops : Array Oper} {S : World → Prop} {op : Oper} {a : Act} (hw : Region.wanted op (yielded ops a.tmps) = true) (x y : Operand) (ho : op.op = .build 48 #[(0, x), (1, y)])
    (b : Bool) (f : Nat → Int) (hx : a.eval x = .bool b) (hy : a.eval y = .agg (ar f)) : YieldsIf Try.prog ops S op (.agg (nm b f)) a := .inl ⟨hw, fun w _ => by
  have := run_build (P := Try.prog) w 48 #[(0, .bool b), (1, .agg (ar f))] _ (build_nm b f)
  unfold execOp
  simp only [ho]
  simp [hx, hy, this]⟩
theorem results_range {fn : Func} {p : Tmp} (h : fn.results = #[.cell p 48]) (tmps : Array Value) (w : World) (g : Nat) (s : Bool) (f : Nat → Int)
    (hp : tmps.getD p undef = .pointer (some ⟨g, 0, none⟩)) (hr : w.rangeAt g 0 (nm s f).toList) : (results fn tmps).run Try.prog w = .ok (.agg (nm s f)) w := by
  have hp' : tmps[p]?.getD undef = .pointer (some ⟨g, 0, none⟩) := by simpa using hp
  have := run_loadVar_mid (P := Try.prog) w g 0 48 (nm s f).toList _ hr Try.underlying48 rfl (by kernel_rfl)
  rw [Array.toArray_toList] at this
  simp [results, h, hp', asAddr, this]

set_option maxHeartbeats 2000000 in
theorem plus_same (s : Bool) (A C : Int) (w : World) :
    Calls Try.prog 33 #[.agg (nm s (dgs A)), .agg (nm s (dgs C))] w fun e w' => e = .returned (.agg (nm s (dgs (A + C)))) ∧ Quiet w w' := by
  have P0 : Hid (PS w s s (dgs A) (dgs C) (((w.alloc (.cells (nm s (dgs A)) 48)).alloc (.cells (nm s (dgs C)) 48)).alloc (.cells (nm false fun _ => 0) 48))) :=
    Lib.hid ⟨((Row.new w _ _).alloc _).alloc _, (Row.at_ (w.alloc _) _ _ (by simp)).alloc _, (Row.at_ ((w.alloc _).alloc _) _ _ (by simp)).there, (((Quiet.refl w).alloc _ _).alloc _ _).alloc _ _⟩
  have hc1 : ∀ o o', (((w.alloc (.cells (nm s (dgs A)) 48)).alloc o).alloc o').cell? ⟨w.heap.size, 0, none⟩ = some (.bool s) := fun o o' => (((Row.new w 48 (nm s (dgs A))).alloc o).alloc o').sign
  have hc2 : ∀ o, (((w.alloc (.cells (nm s (dgs A)) 48)).alloc (.cells (nm s (dgs C)) 48)).alloc o).cell? ⟨w.heap.size + 1, 0, none⟩ = some (.bool s) := fun o => ((Row.at_ (w.alloc _) 48 (nm s (dgs C)) (by simp)).alloc o).sign
  go_enter Try.func33, Try.ntmps33
  go_wp2_with fail
  clear hc1 hc2
  refine wp_region_held_drew (S := PS w s s (dgs A) (dgs C)) (by kernel_rfl) P0.out.drew (fun hH => ?_)
  refine wpAnyH_take (i := 0) (v := .pointer (some ⟨w.heap.size, 0, none⟩)) rfl (by kernel_rfl) (by kernel_rfl) (by kernel_rfl) (fun _ _ _ h => h) (.inl ⟨by rfl, ?_⟩) (by assumption) ?_
  · intro W hW; go_simp
  simp only [List.getElem_toArray, List.getElem_cons_zero, Act.put, List.setIfInBounds_toArray, List.set_cons_zero, List.set_cons_succ]
  refine wpAnyH_take (i := 1) (v := .bool s) rfl (by kernel_rfl) (by kernel_rfl) (by kernel_rfl) (fun _ _ _ h => h) (.inl ⟨by rfl, ?_⟩) (by assumption) ?_
  · intro W hW; have := hW.r1.sign; go_simp
  simp only [List.getElem_toArray, List.getElem_cons_zero, List.getElem_cons_succ, Act.put, List.setIfInBounds_toArray, List.set_cons_zero, List.set_cons_succ]
  refine wpAnyH_take (i := 2) (v := .pointer (some ⟨w.heap.size, 1, none⟩)) rfl (by kernel_rfl) (by kernel_rfl) (by kernel_rfl) (fun _ _ _ h => h) (.inl ⟨by rfl, ?_⟩) (by assumption) ?_
  · intro W hW; go_simp
  simp only [List.getElem_toArray, List.getElem_cons_zero, List.getElem_cons_succ, Act.put, List.setIfInBounds_toArray, List.set_cons_zero, List.set_cons_succ]
  refine wpAnyH_take (i := 3) (v := .agg (ar (dgs A))) rfl (by kernel_rfl) (by kernel_rfl) (by kernel_rfl) (fun _ _ _ h => h) (yields_ar (by rfl) (.tmp 12) rfl (w.heap.size) 1 rfl (dgs A) (fun W hW => hW.r1.range)) (by assumption) ?_
  simp only [List.getElem_toArray, List.getElem_cons_zero, List.getElem_cons_succ, Act.put, List.setIfInBounds_toArray, List.set_cons_zero, List.set_cons_succ]
  refine wpAnyH_take (i := 4) (v := .pointer (some ⟨w.heap.size + 1, 1, none⟩)) rfl (by kernel_rfl) (by kernel_rfl) (by kernel_rfl) (fun _ _ _ h => h) (.inl ⟨by rfl, ?_⟩) (by assumption) ?_
  · intro W hW; go_simp
  simp only [List.getElem_toArray, List.getElem_cons_zero, List.getElem_cons_succ, Act.put, List.setIfInBounds_toArray, List.set_cons_zero, List.set_cons_succ]
  refine wpAnyH_take (i := 5) (v := .agg (ar (dgs C))) rfl (by kernel_rfl) (by kernel_rfl) (by kernel_rfl) (fun _ _ _ h => h) (yields_ar (by rfl) (.tmp 14) rfl (w.heap.size + 1) 1 rfl (dgs C) (fun W hW => hW.r2.range)) (by assumption) ?_
  simp only [List.getElem_toArray, List.getElem_cons_zero, List.getElem_cons_succ, Act.put, List.setIfInBounds_toArray, List.set_cons_zero, List.set_cons_succ]
  refine wpAnyH_ready (rs := [6]) (by kernel_rfl) (by simp) (AllReadyH.cons rfl (fun K hK => ?_) AllReadyH.nil)
  go_simp
  refine (plus_any A C _).mono ?_; rintro e w1 ⟨rfl, hq1⟩
  refine hK.out _ _ (hH.quiet hq1) (fun hH1 => ?_)
  clear hK hH
  refine wpAnyH_take (i := 7) (v := .agg (nm s (dgs (A + C)))) rfl (by kernel_rfl) (by kernel_rfl) (by kernel_rfl) (fun _ _ _ h => h) (yields_build (by rfl) (.tmp 11) (.tmp 16) rfl s (dgs (A + C)) rfl rfl) (by assumption) ?_
  simp only [List.getElem_toArray, List.getElem_cons_zero, List.getElem_cons_succ, Act.put, List.setIfInBounds_toArray, List.set_cons_zero, List.set_cons_succ]
  refine wpAnyH_ready (rs := [8]) (by kernel_rfl) (by simp) (AllReadyH.cons rfl (fun K hK => ?_) AllReadyH.nil)
  rw [if_pos (by rfl)]
  refine wp_store_mid 48 _ _ rfl (w.heap.size + 1 + 1) 0 (nm s (dgs (A + C))) rfl rfl hH1.r3 (by kernel_rfl) (nm_one _ _) ?_
  refine hK.out _ _ (hH1.stored _) (fun hH2 => ?_)
  refine wpAnyH_done (by kernel_rfl) ?_ _
  have hr := World.rangeAt_setCells_same _ (w.heap.size + 1 + 1) 0 (nm s (dgs (A + C))).toList hH1.r3
  simp only [List.getElem_toArray, List.getElem_cons_zero, List.getElem_cons_succ, Act.put]
  go_wp2
  exact bodyPost_ret (v := .agg (nm s (dgs (A + C)))) (results_range rfl _ _ (w.heap.size + 1 + 1) _ _ rfl hr) rfl ⟨rfl, hH2.q⟩

set_option maxHeartbeats 2000000 in
theorem plus_lt_ft (A C : Int) (hA : 0 ≤ A) (hC : 0 ≤ C) (hA1 : A < Rf.T 12) (hC1 : C < Rf.T 12) (hlt : ltB A C = true) (w : World) :
    Calls Try.prog 33 #[.agg (nm false (dgs A)), .agg (nm true (dgs C))] w fun e w' => e = .returned (.agg (nm true (dgs (C - A)))) ∧ Quiet w w' := by
  have L := Lib.hid (fun W => less_any A C hA hC hA1 hC1 W)
  clear hA hC hA1 hC1
  have P0 : Hid (PS w false true (dgs A) (dgs C) (((w.alloc (.cells (nm false (dgs A)) 48)).alloc (.cells (nm true (dgs C)) 48)).alloc (.cells (nm false fun _ => 0) 48))) :=
    Lib.hid ⟨((Row.new w _ _).alloc _).alloc _, (Row.at_ (w.alloc _) _ _ (by simp)).alloc _, (Row.at_ ((w.alloc _).alloc _) _ _ (by simp)).there, (((Quiet.refl w).alloc _ _).alloc _ _).alloc _ _⟩
  have hc1 : ∀ o o', (((w.alloc (.cells (nm false (dgs A)) 48)).alloc o).alloc o').cell? ⟨w.heap.size, 0, none⟩ = some (.bool false) := fun o o' => (((Row.new w 48 (nm false (dgs A))).alloc o).alloc o').sign
  have hc2 : ∀ o, (((w.alloc (.cells (nm false (dgs A)) 48)).alloc (.cells (nm true (dgs C)) 48)).alloc o).cell? ⟨w.heap.size + 1, 0, none⟩ = some (.bool true) := fun o => ((Row.at_ (w.alloc _) 48 (nm true (dgs C)) (by simp)).alloc o).sign
  go_enter Try.func33, Try.ntmps33
  go_wp2_with (first
    | (refine wl_load_ar w.heap.size 1 (dgs A) ?_ ?_ ?_; rfl; exact P0.out.r1.range)
    | (refine wl_load_ar (w.heap.size + 1) 1 (dgs C) ?_ ?_ ?_; rfl; exact P0.out.r2.range)
    | (go_at_call 26; refine (L.out _).mono ?_; rintro e w0 ⟨rfl, hq0⟩))
  clear hc1 hc2
  refine wp_region_held_drew (S := PS w false true (dgs A) (dgs C)) (by kernel_rfl) (P0.out.quiet hq0).drew (fun hH => ?_)
  refine wpAnyH_take (i := 0) (v := .pointer (some ⟨w.heap.size + 1, 0, none⟩)) rfl (by kernel_rfl) (by kernel_rfl) (by kernel_rfl) (fun _ _ _ h => h) (.inl ⟨by rfl, ?_⟩) (by assumption) ?_
  · intro W hW; go_simp
  simp only [List.getElem_toArray, List.getElem_cons_zero, Act.put, List.setIfInBounds_toArray, List.set_cons_zero, List.set_cons_succ]
  refine wpAnyH_take (i := 1) (v := .bool true) rfl (by kernel_rfl) (by kernel_rfl) (by kernel_rfl) (fun _ _ _ h => h) (.inl ⟨by rfl, ?_⟩) (by assumption) ?_
  · intro W hW; have := hW.r2.sign; go_simp
  simp only [List.getElem_toArray, List.getElem_cons_zero, List.getElem_cons_succ, Act.put, List.setIfInBounds_toArray, List.set_cons_zero, List.set_cons_succ]
  refine wpAnyH_take (i := 2) (v := .pointer (some ⟨w.heap.size + 1, 1, none⟩)) rfl (by kernel_rfl) (by kernel_rfl) (by kernel_rfl) (fun _ _ _ h => h) (.inl ⟨by rfl, ?_⟩) (by assumption) ?_
  · intro W hW; go_simp
  simp only [List.getElem_toArray, List.getElem_cons_zero, List.getElem_cons_succ, Act.put, List.setIfInBounds_toArray, List.set_cons_zero, List.set_cons_succ]
  refine wpAnyH_take (i := 3) (v := .agg (ar (dgs C))) rfl (by kernel_rfl) (by kernel_rfl) (by kernel_rfl) (fun _ _ _ h => h) (yields_ar (by rfl) (.tmp 25) rfl (w.heap.size + 1) 1 rfl (dgs C) (fun W hW => hW.r2.range)) (by assumption) ?_
  simp only [List.getElem_toArray, List.getElem_cons_zero, List.getElem_cons_succ, Act.put, List.setIfInBounds_toArray, List.set_cons_zero, List.set_cons_succ]
  refine wpAnyH_take (i := 4) (v := .pointer (some ⟨w.heap.size, 1, none⟩)) rfl (by kernel_rfl) (by kernel_rfl) (by kernel_rfl) (fun _ _ _ h => h) (.inl ⟨by rfl, ?_⟩) (by assumption) ?_
  · intro W hW; go_simp
  simp only [List.getElem_toArray, List.getElem_cons_zero, List.getElem_cons_succ, Act.put, List.setIfInBounds_toArray, List.set_cons_zero, List.set_cons_succ]
  refine wpAnyH_take (i := 5) (v := .agg (ar (dgs A))) rfl (by kernel_rfl) (by kernel_rfl) (by kernel_rfl) (fun _ _ _ h => h) (yields_ar (by rfl) (.tmp 27) rfl (w.heap.size) 1 rfl (dgs A) (fun W hW => hW.r1.range)) (by assumption) ?_
  simp only [List.getElem_toArray, List.getElem_cons_zero, List.getElem_cons_succ, Act.put, List.setIfInBounds_toArray, List.set_cons_zero, List.set_cons_succ]
  refine wpAnyH_ready (rs := [6]) (by kernel_rfl) (by simp) (AllReadyH.cons rfl (fun K hK => ?_) AllReadyH.nil)
  go_simp
  refine (minus_any C A _).mono ?_; rintro e w1 ⟨rfl, hq1⟩
  refine hK.out _ _ (hH.quiet hq1) (fun hH1 => ?_)
  clear hK hH
  refine wpAnyH_take (i := 7) (v := .agg (nm true (dgs (C - A)))) rfl (by kernel_rfl) (by kernel_rfl) (by kernel_rfl) (fun _ _ _ h => h) (yields_build (by rfl) (.tmp 24) (.tmp 29) rfl true (dgs (C - A)) rfl rfl) (by assumption) ?_
  simp only [List.getElem_toArray, List.getElem_cons_zero, List.getElem_cons_succ, Act.put, List.setIfInBounds_toArray, List.set_cons_zero, List.set_cons_succ]
  refine wpAnyH_ready (rs := [8]) (by kernel_rfl) (by simp) (AllReadyH.cons rfl (fun K hK => ?_) AllReadyH.nil)
  rw [if_pos (by rfl)]
  refine wp_store_mid 48 _ _ rfl (w.heap.size + 1 + 1) 0 (nm true (dgs (C - A))) rfl rfl hH1.r3 (by kernel_rfl) (nm_one _ _) ?_
  refine hK.out _ _ (hH1.stored _) (fun hH2 => ?_)
  refine wpAnyH_done (by kernel_rfl) ?_ _
  have hr := World.rangeAt_setCells_same _ (w.heap.size + 1 + 1) 0 (nm true (dgs (C - A))).toList hH1.r3
  simp only [List.getElem_toArray, List.getElem_cons_zero, List.getElem_cons_succ, Act.put]
  go_wp2
  exact bodyPost_ret (v := .agg (nm true (dgs (C - A)))) (results_range rfl _ _ (w.heap.size + 1 + 1) _ _ rfl hr) rfl ⟨rfl, hH2.q⟩

set_option maxHeartbeats 2000000 in
theorem plus_ge_ft (A C : Int) (hA : 0 ≤ A) (hC : 0 ≤ C) (hA1 : A < Rf.T 12) (hC1 : C < Rf.T 12) (hlt : ltB A C = false) (w : World) :
    Calls Try.prog 33 #[.agg (nm false (dgs A)), .agg (nm true (dgs C))] w fun e w' => e = .returned (.agg (nm false (dgs (A - C)))) ∧ Quiet w w' := by
  have L := Lib.hid (fun W => less_any A C hA hC hA1 hC1 W)
  clear hA hC hA1 hC1
  have P0 : Hid (PS w false true (dgs A) (dgs C) (((w.alloc (.cells (nm false (dgs A)) 48)).alloc (.cells (nm true (dgs C)) 48)).alloc (.cells (nm false fun _ => 0) 48))) :=
    Lib.hid ⟨((Row.new w _ _).alloc _).alloc _, (Row.at_ (w.alloc _) _ _ (by simp)).alloc _, (Row.at_ ((w.alloc _).alloc _) _ _ (by simp)).there, (((Quiet.refl w).alloc _ _).alloc _ _).alloc _ _⟩
  have hc1 : ∀ o o', (((w.alloc (.cells (nm false (dgs A)) 48)).alloc o).alloc o').cell? ⟨w.heap.size, 0, none⟩ = some (.bool false) := fun o o' => (((Row.new w 48 (nm false (dgs A))).alloc o).alloc o').sign
  have hc2 : ∀ o, (((w.alloc (.cells (nm false (dgs A)) 48)).alloc (.cells (nm true (dgs C)) 48)).alloc o).cell? ⟨w.heap.size + 1, 0, none⟩ = some (.bool true) := fun o => ((Row.at_ (w.alloc _) 48 (nm true (dgs C)) (by simp)).alloc o).sign
  go_enter Try.func33, Try.ntmps33
  go_wp2_with (first
    | (refine wl_load_ar w.heap.size 1 (dgs A) ?_ ?_ ?_; rfl; exact P0.out.r1.range)
    | (refine wl_load_ar (w.heap.size + 1) 1 (dgs C) ?_ ?_ ?_; rfl; exact P0.out.r2.range)
    | (go_at_call 26; refine (L.out _).mono ?_; rintro e w0 ⟨rfl, hq0⟩))
  clear hc1 hc2
  refine wp_region_held_drew (S := PS w false true (dgs A) (dgs C)) (by kernel_rfl) (P0.out.quiet hq0).drew (fun hH => ?_)
  refine wpAnyH_take (i := 0) (v := .pointer (some ⟨w.heap.size, 0, none⟩)) rfl (by kernel_rfl) (by kernel_rfl) (by kernel_rfl) (fun _ _ _ h => h) (.inl ⟨by rfl, ?_⟩) (by assumption) ?_
  · intro W hW; go_simp
  simp only [List.getElem_toArray, List.getElem_cons_zero, Act.put, List.setIfInBounds_toArray, List.set_cons_zero, List.set_cons_succ]
  refine wpAnyH_take (i := 1) (v := .bool false) rfl (by kernel_rfl) (by kernel_rfl) (by kernel_rfl) (fun _ _ _ h => h) (.inl ⟨by rfl, ?_⟩) (by assumption) ?_
  · intro W hW; have := hW.r1.sign; go_simp
  simp only [List.getElem_toArray, List.getElem_cons_zero, List.getElem_cons_succ, Act.put, List.setIfInBounds_toArray, List.set_cons_zero, List.set_cons_succ]
  refine wpAnyH_take (i := 2) (v := .pointer (some ⟨w.heap.size, 1, none⟩)) rfl (by kernel_rfl) (by kernel_rfl) (by kernel_rfl) (fun _ _ _ h => h) (.inl ⟨by rfl, ?_⟩) (by assumption) ?_
  · intro W hW; go_simp
  simp only [List.getElem_toArray, List.getElem_cons_zero, List.getElem_cons_succ, Act.put, List.setIfInBounds_toArray, List.set_cons_zero, List.set_cons_succ]
  refine wpAnyH_take (i := 3) (v := .agg (ar (dgs A))) rfl (by kernel_rfl) (by kernel_rfl) (by kernel_rfl) (fun _ _ _ h => h) (yields_ar (by rfl) (.tmp 33) rfl (w.heap.size) 1 rfl (dgs A) (fun W hW => hW.r1.range)) (by assumption) ?_
  simp only [List.getElem_toArray, List.getElem_cons_zero, List.getElem_cons_succ, Act.put, List.setIfInBounds_toArray, List.set_cons_zero, List.set_cons_succ]
  refine wpAnyH_take (i := 4) (v := .pointer (some ⟨w.heap.size + 1, 1, none⟩)) rfl (by kernel_rfl) (by kernel_rfl) (by kernel_rfl) (fun _ _ _ h => h) (.inl ⟨by rfl, ?_⟩) (by assumption) ?_
  · intro W hW; go_simp
  simp only [List.getElem_toArray, List.getElem_cons_zero, List.getElem_cons_succ, Act.put, List.setIfInBounds_toArray, List.set_cons_zero, List.set_cons_succ]
  refine wpAnyH_take (i := 5) (v := .agg (ar (dgs C))) rfl (by kernel_rfl) (by kernel_rfl) (by kernel_rfl) (fun _ _ _ h => h) (yields_ar (by rfl) (.tmp 35) rfl (w.heap.size + 1) 1 rfl (dgs C) (fun W hW => hW.r2.range)) (by assumption) ?_
  simp only [List.getElem_toArray, List.getElem_cons_zero, List.getElem_cons_succ, Act.put, List.setIfInBounds_toArray, List.set_cons_zero, List.set_cons_succ]
  refine wpAnyH_ready (rs := [6]) (by kernel_rfl) (by simp) (AllReadyH.cons rfl (fun K hK => ?_) AllReadyH.nil)
  go_simp
  refine (minus_any A C _).mono ?_; rintro e w1 ⟨rfl, hq1⟩
  refine hK.out _ _ (hH.quiet hq1) (fun hH1 => ?_)
  clear hK hH
  refine wpAnyH_take (i := 7) (v := .agg (nm false (dgs (A - C)))) rfl (by kernel_rfl) (by kernel_rfl) (by kernel_rfl) (fun _ _ _ h => h) (yields_build (by rfl) (.tmp 32) (.tmp 37) rfl false (dgs (A - C)) rfl rfl) (by assumption) ?_
  simp only [List.getElem_toArray, List.getElem_cons_zero, List.getElem_cons_succ, Act.put, List.setIfInBounds_toArray, List.set_cons_zero, List.set_cons_succ]
  refine wpAnyH_ready (rs := [8]) (by kernel_rfl) (by simp) (AllReadyH.cons rfl (fun K hK => ?_) AllReadyH.nil)
  rw [if_pos (by rfl)]
  refine wp_store_mid 48 _ _ rfl (w.heap.size + 1 + 1) 0 (nm false (dgs (A - C))) rfl rfl hH1.r3 (by kernel_rfl) (nm_one _ _) ?_
  refine hK.out _ _ (hH1.stored _) (fun hH2 => ?_)
  refine wpAnyH_done (by kernel_rfl) ?_ _
  have hr := World.rangeAt_setCells_same _ (w.heap.size + 1 + 1) 0 (nm false (dgs (A - C))).toList hH1.r3
  simp only [List.getElem_toArray, List.getElem_cons_zero, List.getElem_cons_succ, Act.put]
  go_wp2
  exact bodyPost_ret (v := .agg (nm false (dgs (A - C)))) (results_range rfl _ _ (w.heap.size + 1 + 1) _ _ rfl hr) rfl ⟨rfl, hH2.q⟩

set_option maxHeartbeats 2000000 in
theorem plus_lt_tf (A C : Int) (hA : 0 ≤ A) (hC : 0 ≤ C) (hA1 : A < Rf.T 12) (hC1 : C < Rf.T 12) (hlt : ltB A C = true) (w : World) :
    Calls Try.prog 33 #[.agg (nm true (dgs A)), .agg (nm false (dgs C))] w fun e w' => e = .returned (.agg (nm false (dgs (C - A)))) ∧ Quiet w w' := by
  have L := Lib.hid (fun W => less_any A C hA hC hA1 hC1 W)
  clear hA hC hA1 hC1
  have P0 : Hid (PS w true false (dgs A) (dgs C) (((w.alloc (.cells (nm true (dgs A)) 48)).alloc (.cells (nm false (dgs C)) 48)).alloc (.cells (nm false fun _ => 0) 48))) :=
    Lib.hid ⟨((Row.new w _ _).alloc _).alloc _, (Row.at_ (w.alloc _) _ _ (by simp)).alloc _, (Row.at_ ((w.alloc _).alloc _) _ _ (by simp)).there, (((Quiet.refl w).alloc _ _).alloc _ _).alloc _ _⟩
  have hc1 : ∀ o o', (((w.alloc (.cells (nm true (dgs A)) 48)).alloc o).alloc o').cell? ⟨w.heap.size, 0, none⟩ = some (.bool true) := fun o o' => (((Row.new w 48 (nm true (dgs A))).alloc o).alloc o').sign
  have hc2 : ∀ o, (((w.alloc (.cells (nm true (dgs A)) 48)).alloc (.cells (nm false (dgs C)) 48)).alloc o).cell? ⟨w.heap.size + 1, 0, none⟩ = some (.bool false) := fun o => ((Row.at_ (w.alloc _) 48 (nm false (dgs C)) (by simp)).alloc o).sign
  go_enter Try.func33, Try.ntmps33
  go_wp2_with (first
    | (refine wl_load_ar w.heap.size 1 (dgs A) ?_ ?_ ?_; rfl; exact P0.out.r1.range)
    | (refine wl_load_ar (w.heap.size + 1) 1 (dgs C) ?_ ?_ ?_; rfl; exact P0.out.r2.range)
    | (go_at_call 26; refine (L.out _).mono ?_; rintro e w0 ⟨rfl, hq0⟩))
  clear hc1 hc2
  refine wp_region_held_drew (S := PS w true false (dgs A) (dgs C)) (by kernel_rfl) (P0.out.quiet hq0).drew (fun hH => ?_)
  refine wpAnyH_take (i := 0) (v := .pointer (some ⟨w.heap.size + 1, 0, none⟩)) rfl (by kernel_rfl) (by kernel_rfl) (by kernel_rfl) (fun _ _ _ h => h) (.inl ⟨by rfl, ?_⟩) (by assumption) ?_
  · intro W hW; go_simp
  simp only [List.getElem_toArray, List.getElem_cons_zero, Act.put, List.setIfInBounds_toArray, List.set_cons_zero, List.set_cons_succ]
  refine wpAnyH_take (i := 1) (v := .bool false) rfl (by kernel_rfl) (by kernel_rfl) (by kernel_rfl) (fun _ _ _ h => h) (.inl ⟨by rfl, ?_⟩) (by assumption) ?_
  · intro W hW; have := hW.r2.sign; go_simp
  simp only [List.getElem_toArray, List.getElem_cons_zero, List.getElem_cons_succ, Act.put, List.setIfInBounds_toArray, List.set_cons_zero, List.set_cons_succ]
  refine wpAnyH_take (i := 2) (v := .pointer (some ⟨w.heap.size + 1, 1, none⟩)) rfl (by kernel_rfl) (by kernel_rfl) (by kernel_rfl) (fun _ _ _ h => h) (.inl ⟨by rfl, ?_⟩) (by assumption) ?_
  · intro W hW; go_simp
  simp only [List.getElem_toArray, List.getElem_cons_zero, List.getElem_cons_succ, Act.put, List.setIfInBounds_toArray, List.set_cons_zero, List.set_cons_succ]
  refine wpAnyH_take (i := 3) (v := .agg (ar (dgs C))) rfl (by kernel_rfl) (by kernel_rfl) (by kernel_rfl) (fun _ _ _ h => h) (yields_ar (by rfl) (.tmp 25) rfl (w.heap.size + 1) 1 rfl (dgs C) (fun W hW => hW.r2.range)) (by assumption) ?_
  simp only [List.getElem_toArray, List.getElem_cons_zero, List.getElem_cons_succ, Act.put, List.setIfInBounds_toArray, List.set_cons_zero, List.set_cons_succ]
  refine wpAnyH_take (i := 4) (v := .pointer (some ⟨w.heap.size, 1, none⟩)) rfl (by kernel_rfl) (by kernel_rfl) (by kernel_rfl) (fun _ _ _ h => h) (.inl ⟨by rfl, ?_⟩) (by assumption) ?_
  · intro W hW; go_simp
  simp only [List.getElem_toArray, List.getElem_cons_zero, List.getElem_cons_succ, Act.put, List.setIfInBounds_toArray, List.set_cons_zero, List.set_cons_succ]
  refine wpAnyH_take (i := 5) (v := .agg (ar (dgs A))) rfl (by kernel_rfl) (by kernel_rfl) (by kernel_rfl) (fun _ _ _ h => h) (yields_ar (by rfl) (.tmp 27) rfl (w.heap.size) 1 rfl (dgs A) (fun W hW => hW.r1.range)) (by assumption) ?_
  simp only [List.getElem_toArray, List.getElem_cons_zero, List.getElem_cons_succ, Act.put, List.setIfInBounds_toArray, List.set_cons_zero, List.set_cons_succ]
  refine wpAnyH_ready (rs := [6]) (by kernel_rfl) (by simp) (AllReadyH.cons rfl (fun K hK => ?_) AllReadyH.nil)
  go_simp
  refine (minus_any C A _).mono ?_; rintro e w1 ⟨rfl, hq1⟩
  refine hK.out _ _ (hH.quiet hq1) (fun hH1 => ?_)
  clear hK hH
  refine wpAnyH_take (i := 7) (v := .agg (nm false (dgs (C - A)))) rfl (by kernel_rfl) (by kernel_rfl) (by kernel_rfl) (fun _ _ _ h => h) (yields_build (by rfl) (.tmp 24) (.tmp 29) rfl false (dgs (C - A)) rfl rfl) (by assumption) ?_
  simp only [List.getElem_toArray, List.getElem_cons_zero, List.getElem_cons_succ, Act.put, List.setIfInBounds_toArray, List.set_cons_zero, List.set_cons_succ]
  refine wpAnyH_ready (rs := [8]) (by kernel_rfl) (by simp) (AllReadyH.cons rfl (fun K hK => ?_) AllReadyH.nil)
  rw [if_pos (by rfl)]
  refine wp_store_mid 48 _ _ rfl (w.heap.size + 1 + 1) 0 (nm false (dgs (C - A))) rfl rfl hH1.r3 (by kernel_rfl) (nm_one _ _) ?_
  refine hK.out _ _ (hH1.stored _) (fun hH2 => ?_)
  refine wpAnyH_done (by kernel_rfl) ?_ _
  have hr := World.rangeAt_setCells_same _ (w.heap.size + 1 + 1) 0 (nm false (dgs (C - A))).toList hH1.r3
  simp only [List.getElem_toArray, List.getElem_cons_zero, List.getElem_cons_succ, Act.put]
  go_wp2
  exact bodyPost_ret (v := .agg (nm false (dgs (C - A)))) (results_range rfl _ _ (w.heap.size + 1 + 1) _ _ rfl hr) rfl ⟨rfl, hH2.q⟩

set_option maxHeartbeats 2000000 in
theorem plus_ge_tf (A C : Int) (hA : 0 ≤ A) (hC : 0 ≤ C) (hA1 : A < Rf.T 12) (hC1 : C < Rf.T 12) (hlt : ltB A C = false) (w : World) :
    Calls Try.prog 33 #[.agg (nm true (dgs A)), .agg (nm false (dgs C))] w fun e w' => e = .returned (.agg (nm true (dgs (A - C)))) ∧ Quiet w w' := by
  have L := Lib.hid (fun W => less_any A C hA hC hA1 hC1 W)
  clear hA hC hA1 hC1
  have P0 : Hid (PS w true false (dgs A) (dgs C) (((w.alloc (.cells (nm true (dgs A)) 48)).alloc (.cells (nm false (dgs C)) 48)).alloc (.cells (nm false fun _ => 0) 48))) :=
    Lib.hid ⟨((Row.new w _ _).alloc _).alloc _, (Row.at_ (w.alloc _) _ _ (by simp)).alloc _, (Row.at_ ((w.alloc _).alloc _) _ _ (by simp)).there, (((Quiet.refl w).alloc _ _).alloc _ _).alloc _ _⟩
  have hc1 : ∀ o o', (((w.alloc (.cells (nm true (dgs A)) 48)).alloc o).alloc o').cell? ⟨w.heap.size, 0, none⟩ = some (.bool true) := fun o o' => (((Row.new w 48 (nm true (dgs A))).alloc o).alloc o').sign
  have hc2 : ∀ o, (((w.alloc (.cells (nm true (dgs A)) 48)).alloc (.cells (nm false (dgs C)) 48)).alloc o).cell? ⟨w.heap.size + 1, 0, none⟩ = some (.bool false) := fun o => ((Row.at_ (w.alloc _) 48 (nm false (dgs C)) (by simp)).alloc o).sign
  go_enter Try.func33, Try.ntmps33
  go_wp2_with (first
    | (refine wl_load_ar w.heap.size 1 (dgs A) ?_ ?_ ?_; rfl; exact P0.out.r1.range)
    | (refine wl_load_ar (w.heap.size + 1) 1 (dgs C) ?_ ?_ ?_; rfl; exact P0.out.r2.range)
    | (go_at_call 26; refine (L.out _).mono ?_; rintro e w0 ⟨rfl, hq0⟩))
  clear hc1 hc2
  refine wp_region_held_drew (S := PS w true false (dgs A) (dgs C)) (by kernel_rfl) (P0.out.quiet hq0).drew (fun hH => ?_)
  refine wpAnyH_take (i := 0) (v := .pointer (some ⟨w.heap.size, 0, none⟩)) rfl (by kernel_rfl) (by kernel_rfl) (by kernel_rfl) (fun _ _ _ h => h) (.inl ⟨by rfl, ?_⟩) (by assumption) ?_
  · intro W hW; go_simp
  simp only [List.getElem_toArray, List.getElem_cons_zero, Act.put, List.setIfInBounds_toArray, List.set_cons_zero, List.set_cons_succ]
  refine wpAnyH_take (i := 1) (v := .bool true) rfl (by kernel_rfl) (by kernel_rfl) (by kernel_rfl) (fun _ _ _ h => h) (.inl ⟨by rfl, ?_⟩) (by assumption) ?_
  · intro W hW; have := hW.r1.sign; go_simp
  simp only [List.getElem_toArray, List.getElem_cons_zero, List.getElem_cons_succ, Act.put, List.setIfInBounds_toArray, List.set_cons_zero, List.set_cons_succ]
  refine wpAnyH_take (i := 2) (v := .pointer (some ⟨w.heap.size, 1, none⟩)) rfl (by kernel_rfl) (by kernel_rfl) (by kernel_rfl) (fun _ _ _ h => h) (.inl ⟨by rfl, ?_⟩) (by assumption) ?_
  · intro W hW; go_simp
  simp only [List.getElem_toArray, List.getElem_cons_zero, List.getElem_cons_succ, Act.put, List.setIfInBounds_toArray, List.set_cons_zero, List.set_cons_succ]
  refine wpAnyH_take (i := 3) (v := .agg (ar (dgs A))) rfl (by kernel_rfl) (by kernel_rfl) (by kernel_rfl) (fun _ _ _ h => h) (yields_ar (by rfl) (.tmp 33) rfl (w.heap.size) 1 rfl (dgs A) (fun W hW => hW.r1.range)) (by assumption) ?_
  simp only [List.getElem_toArray, List.getElem_cons_zero, List.getElem_cons_succ, Act.put, List.setIfInBounds_toArray, List.set_cons_zero, List.set_cons_succ]
  refine wpAnyH_take (i := 4) (v := .pointer (some ⟨w.heap.size + 1, 1, none⟩)) rfl (by kernel_rfl) (by kernel_rfl) (by kernel_rfl) (fun _ _ _ h => h) (.inl ⟨by rfl, ?_⟩) (by assumption) ?_
  · intro W hW; go_simp
  simp only [List.getElem_toArray, List.getElem_cons_zero, List.getElem_cons_succ, Act.put, List.setIfInBounds_toArray, List.set_cons_zero, List.set_cons_succ]
  refine wpAnyH_take (i := 5) (v := .agg (ar (dgs C))) rfl (by kernel_rfl) (by kernel_rfl) (by kernel_rfl) (fun _ _ _ h => h) (yields_ar (by rfl) (.tmp 35) rfl (w.heap.size + 1) 1 rfl (dgs C) (fun W hW => hW.r2.range)) (by assumption) ?_
  simp only [List.getElem_toArray, List.getElem_cons_zero, List.getElem_cons_succ, Act.put, List.setIfInBounds_toArray, List.set_cons_zero, List.set_cons_succ]
  refine wpAnyH_ready (rs := [6]) (by kernel_rfl) (by simp) (AllReadyH.cons rfl (fun K hK => ?_) AllReadyH.nil)
  go_simp
  refine (minus_any A C _).mono ?_; rintro e w1 ⟨rfl, hq1⟩
  refine hK.out _ _ (hH.quiet hq1) (fun hH1 => ?_)
  clear hK hH
  refine wpAnyH_take (i := 7) (v := .agg (nm true (dgs (A - C)))) rfl (by kernel_rfl) (by kernel_rfl) (by kernel_rfl) (fun _ _ _ h => h) (yields_build (by rfl) (.tmp 32) (.tmp 37) rfl true (dgs (A - C)) rfl rfl) (by assumption) ?_
  simp only [List.getElem_toArray, List.getElem_cons_zero, List.getElem_cons_succ, Act.put, List.setIfInBounds_toArray, List.set_cons_zero, List.set_cons_succ]
  refine wpAnyH_ready (rs := [8]) (by kernel_rfl) (by simp) (AllReadyH.cons rfl (fun K hK => ?_) AllReadyH.nil)
  rw [if_pos (by rfl)]
  refine wp_store_mid 48 _ _ rfl (w.heap.size + 1 + 1) 0 (nm true (dgs (A - C))) rfl rfl hH1.r3 (by kernel_rfl) (nm_one _ _) ?_
  refine hK.out _ _ (hH1.stored _) (fun hH2 => ?_)
  refine wpAnyH_done (by kernel_rfl) ?_ _
  have hr := World.rangeAt_setCells_same _ (w.heap.size + 1 + 1) 0 (nm true (dgs (A - C))).toList hH1.r3
  simp only [List.getElem_toArray, List.getElem_cons_zero, List.getElem_cons_succ, Act.put]
  go_wp2
  exact bodyPost_ret (v := .agg (nm true (dgs (A - C)))) (results_range rfl _ _ (w.heap.size + 1 + 1) _ _ rfl hr) rfl ⟨rfl, hH2.q⟩
end Go.Proofs.Ytpfhkmppbochnaa
/- Contracts of the document's plain answers for sums, differences and negatives, and the walk of the statement FixnumSums: it returns true for every two int64 numbers. -/
namespace Go.Proofs.Ytpfhkmppbochnaa
open Go.RowKit

theorem T12 : (36893488147419103232 : Int) < Rf.T 12 := by decide
theorem sgn_mag (a : Int) : sgn (decide (a < 0)) (mag a) = a := by
  unfold sgn mag
  by_cases h : a < 0 <;> simp [h]
/-- A number is told whose value is x and whose size is at most b. -/
def IsNum (x b : Int) (e : Ending) : Prop := ∃ u N, e = .returned (.agg (nm u (dgs N))) ∧ 0 ≤ N ∧ N ≤ b ∧ sgn u N = x
theorem plus_num (s t : Bool) (A C b : Int) (hA : 0 ≤ A) (hC : 0 ≤ C) (hb : A + C ≤ b) (h12 : b < Rf.T 12) (w : World) :
    Calls Try.prog 33 #[.agg (nm s (dgs A)), .agg (nm t (dgs C))] w fun e w' => IsNum (sgn s A + sgn t C) b e ∧ Quiet w w' := by
  by_cases hst : s = t
  · subst hst
    refine (plus_same s A C w).mono ?_
    rintro e w' ⟨rfl, hq⟩
    exact ⟨⟨s, A + C, rfl, by omega, hb, by unfold sgn; split <;> omega⟩, hq⟩
  · have hA1 : A < Rf.T 12 := by omega
    have hC1 : C < Rf.T 12 := by omega
    cases hl : ltB A C
    · have h : C ≤ A := by unfold ltB at hl; have := of_decide_eq_false hl; omega
      cases s <;> cases t
      · exact absurd rfl hst
      · refine (plus_ge_ft A C hA hC hA1 hC1 hl w).mono ?_
        rintro e w' ⟨rfl, hq⟩
        exact ⟨⟨false, A - C, rfl, by omega, by omega, by simp only [sgn]; simp; omega⟩, hq⟩
      · refine (plus_ge_tf A C hA hC hA1 hC1 hl w).mono ?_
        rintro e w' ⟨rfl, hq⟩
        exact ⟨⟨true, A - C, rfl, by omega, by omega, by simp only [sgn]; simp; omega⟩, hq⟩
      · exact absurd rfl hst
    · have h : A < C := by unfold ltB at hl; exact of_decide_eq_true hl
      cases s <;> cases t
      · exact absurd rfl hst
      · refine (plus_lt_ft A C hA hC hA1 hC1 hl w).mono ?_
        rintro e w' ⟨rfl, hq⟩
        exact ⟨⟨true, C - A, rfl, by omega, by omega, by simp only [sgn]; simp; omega⟩, hq⟩
      · refine (plus_lt_tf A C hA hC hA1 hC1 hl w).mono ?_
        rintro e w' ⟨rfl, hq⟩
        exact ⟨⟨false, C - A, rfl, by omega, by omega, by simp only [sgn]; simp; omega⟩, hq⟩
      · exact absurd rfl hst

theorem tO_tE (x : Int) : tE x = if tO x then 0 else 6 := by
  unfold tE tO
  by_cases h : -9223372036854775808 ≤ x ∧ x ≤ 9223372036854775807
  · rw [if_pos h, decide_eq_true h]; rfl
  · rw [if_neg h, decide_eq_false h]; rfl
theorem tN_no {x : Int} (h : tO x = false) : tN x = 0 := by
  unfold tO at h; unfold tN; exact if_neg (of_decide_eq_false h)
















































theorem sgn_not (s : Bool) (N : Int) : sgn (!s) N = -sgn s N := by cases s <;> simp [sgn]













































































end Go.Proofs.Ytpfhkmppbochnaa
/- Contracts of the document's plain sum of a list, and of the comparison of two lists, and the walk of the statement FixnumAll: it returns true for every list of int64 numbers. -/
namespace Go.Proofs.Ytpfhkmppbochnaa
open Go.RowKit

theorem of_zero (w : World) : Calls Try.prog 23 #[.int .i64 0] w fun e w' => e = .returned (.agg (nm false (dgs 0))) ∧ Quiet w w' := of_any 0 (by unfold I64; decide) w
theorem yields_nm {ops : Array Oper} {S : World → Prop} {op : Oper} {a : Act} (hw : Region.wanted op (yielded ops a.tmps) = true) (x : Operand) (ho : op.op = .load 48 x)
    (g : Nat) (hx : a.eval x = .pointer (some ⟨g, 0, none⟩)) (s : Bool) (f : Nat → Int) (hS : ∀ w, S w → w.rangeAt g 0 (nm s f).toList) : YieldsIf Try.prog ops S op (.agg (nm s f)) a := by
  have := yieldsIf_load_mid (P := Try.prog) hw 48 x ho g 0 hx (nm s f).toList _ hS Try.underlying48 rfl (by kernel_rfl)
  rwa [Array.toArray_toList] at this

/-- What every world of a round of the sum has: the number that is read, and nothing old has turned. -/
def SW (w : World) (b o : Nat) (x : Int) (W : World) : Prop := W.cell? ⟨b, o, none⟩ = some (.int .i64 x) ∧ Quiet w W
theorem SW.quiet {w : World} {b o : Nat} {x : Int} {W W' : World} (h : SW w b o x W) (k : Quiet W W') : SW w b o x W' :=
  ⟨(k.2.cell (p := ⟨b, o, none⟩) (World.block_lt_of_cell? W _ h.1)).trans h.1, h.2.trans k⟩
theorem SW.setRow {w : World} {b o : Nat} {x : Int} {W : World} {g : Nat} {t : TypeId} {cs : Array Value} (h : SW w b o x W) (hb : b < w.heap.size) (r : Row W g t cs) (hg : w.heap.size ≤ g) (cs' : Array Value) : SW w b o x (W.setRow g cs') := by
  refine ⟨?_, h.2.setRow r hg cs'⟩
  rw [cell_setRow_other W g cs' ⟨b, o, none⟩ (by show b ≠ g; omega)]
  exact h.1

theorem sm_size {N x : Int} {k : Nat} (h1 : N ≤ 9223372036854775808 * (k : Int)) (hk : k ≤ 1152921504606846976) (hx : 0 ≤ mag x ∧ mag x ≤ 9223372036854775808) :
    N + mag x ≤ 9223372036854775808 * ((k + 1 : Nat) : Int) ∧ 9223372036854775808 * ((k + 1 : Nat) : Int) < Rf.T 12 := by
  have : (10633823966279326992483775380034977792 : Int) < Rf.T 12 := by decide
  omega

set_option maxHeartbeats 2000000 in
theorem sum_num (b off len cap : Nat) (zs : List Int) (w : World) (hz : zs.length = len) (hbig : len ≤ 1152921504606846975) (hr : ∀ n, n ∈ zs → I64 n)
    (hc : ∀ j, j < len → w.cell? ⟨b, off + j, none⟩ = some (.int .i64 (zs.getD j 0))) :
    Calls Try.prog 20 #[.slice (some ⟨b, off, none⟩) len cap] w fun e w' => IsNum (sm zs) (9223372036854775808 * (len : Int)) e ∧ Quiet w w' := by
  have HR := Lib.hid hr
  have HZ := Lib.hid hz
  have HC := Lib.hid hc
  clear hr hz hc
  go_enter Try.func20, Try.ntmps20
  go_wp2_with fail
  refine (of_zero _).mono ?_; rintro e w1 ⟨rfl, hq1⟩
  have hlt1 : w.heap.size < w1.heap.size := by have := hq1.2.size; simp at this; omega
  have r0 : Row w1 w.heap.size 48 (nm false fun _ => 0) := (Row.new w 48 (nm false fun _ => 0)).below hq1.2 (by simp)
  have HQ1 := Lib.hid (((Quiet.refl w).alloc (nm false fun _ => 0) 48).trans hq1)
  have R0 := Lib.hid r0
  clear hq1 r0
  go_wp2_with (refine wl_store_nm w1.heap.size false false (dgs 0) (fun _ => 0) ?_ ?_ ?_ ?_; rfl; rfl; exact Row.new w1 48 (nm false fun _ => 0))
  go_loopw [4] (fun i wr => ∃ (k : Nat) (u : Bool) (N : Int), k ≤ len ∧ i = .int .i64 k ∧ Row wr w1.heap.size 48 (nm u (dgs N)) ∧ 0 ≤ N ∧ N ≤ 9223372036854775808 * (k : Int) ∧ sgn u N = sm (zs.take k) ∧
      Row wr w.heap.size 48 (nm false fun _ => 0) ∧ Quiet w wr) (fun i _ => len - (intOf i).toNat)
  case atStart =>
    have rn := Row.new w1 48 (nm false fun _ => 0)
    exact ⟨0, false, 0, Nat.zero_le _, rfl, rn.whole _, Int.le_refl 0, by decide, rfl, ((R0.out.alloc _).apart (by omega) _), (HQ1.out.alloc _ _).setRow rn (by omega) _⟩
  case round =>
    obtain ⟨k, u, M, hk, rfl, r1, m0, m1, ms, r2, hq⟩ := hrel
    by_cases hlt : k < len
    · have hx : zs.getD k 0 ∈ zs := by
        have h3 : k < zs.length := by have := HZ.out; omega
        rw [show zs.getD k 0 = zs[k] from by simp [List.getD, h3]]
        exact List.getElem_mem _
      have hI := HR.out _ hx
      have hcell := HC.out k hlt
      have HS := Lib.hid (sm_take zs k (by have := HZ.out; omega))
      obtain ⟨x, hxe⟩ : ∃ x, x = zs.getD k 0 := ⟨_, rfl⟩
      rw [← hxe] at hcell hI HS
      have hb := World.block_lt_of_cell? w _ hcell
      have s0 : SW w b (off + k) x wr := ⟨(hq.2.cell (p := ⟨b, off + k, none⟩) hb).trans hcell, hq⟩
      have hm := mag_bd x hI
      have bd := sm_size (x := x) m1 (by omega) hm
      have O := Lib.hid (fun W => of_any x hI W)
      have P := Lib.hid (fun W => plus_num u (decide (x < 0)) M (mag x) (9223372036854775808 * ((k + 1 : Nat) : Int)) m0 hm.1 bd.1 bd.2 W)
      have e1 := sgn_mag x
      rw [ms, e1, ← HS.out] at P
      have R1 := Lib.hid r1
      have R2 := Lib.hid r2
      have S0 := Lib.hid s0
      clear hx hxe hI hm bd e1 r1 r2 hq ms m0 m1 HS s0 hcell
      go_wp2_with fail
      refine wp_region_held_drew (S := SW w b (off + k) x) (by kernel_rfl) ⟨S0.out.1, S0.out.2.drew⟩ (fun hH => ?_)
      refine wpAnyH_take (i := 1) (v := .slice (some ⟨b, off, none⟩) len cap) rfl (by kernel_rfl) (by kernel_rfl) (by kernel_rfl) (fun _ _ _ h => h) (.inl ⟨by rfl, ?_⟩) (by assumption) ?_
      · intro W hW; go_simp
      simp only [List.getElem_toArray, List.getElem_cons_zero, List.getElem_cons_succ, Act.put, List.setIfInBounds_toArray, List.set_cons_zero, List.set_cons_succ]
      refine wpAnyH_take (i := 2) (v := .int .i64 k) rfl (by kernel_rfl) (by kernel_rfl) (by kernel_rfl) (fun _ _ _ h => h) (.inl ⟨by rfl, ?_⟩) (by assumption) ?_
      · intro W hW; go_simp
      simp only [List.getElem_toArray, List.getElem_cons_zero, List.getElem_cons_succ, Act.put, List.setIfInBounds_toArray, List.set_cons_zero, List.set_cons_succ]
      refine wpAnyH_take (i := 3) (v := .pointer (some ⟨b, off + k, none⟩)) rfl (by kernel_rfl) (by kernel_rfl) (by kernel_rfl) (fun _ _ _ h => h) (.inl ⟨by rfl, ?_⟩) (by assumption) ?_
      · intro W hW; go_simp
      simp only [List.getElem_toArray, List.getElem_cons_zero, List.getElem_cons_succ, Act.put, List.setIfInBounds_toArray, List.set_cons_zero, List.set_cons_succ]
      refine wpAnyH_take (i := 4) (v := .int .i64 x) rfl (by kernel_rfl) (by kernel_rfl) (by kernel_rfl) (fun _ _ _ h => h) (.inl ⟨by rfl, ?_⟩) (by assumption) ?_
      · intro W hW; have := hW.1; go_simp
      simp only [List.getElem_toArray, List.getElem_cons_zero, List.getElem_cons_succ, Act.put, List.setIfInBounds_toArray, List.set_cons_zero, List.set_cons_succ]
      refine wpAnyH_ready (rs := [0, 5]) (by kernel_rfl) (by simp) (AllReadyH.cons rfl (fun K hK => ?_) (AllReadyH.cons rfl (fun K hK => ?_) AllReadyH.nil))
      · rw [if_pos (by rfl)]
        refine wp_load_row 48 (.tmp 3) rfl w1.heap.size rfl 48 (nm u (dgs M)) (0, 0) _ R1.out Try.underlying48 rfl (by kernel_rfl) ?_
        refine hK.out _ _ hH (fun _ => ?_)
        clear hK
        try simp only [List.getElem_toArray, List.getElem_cons_zero, Act.put, List.setIfInBounds_toArray, List.set_cons_zero, List.set_cons_succ]
        refine wpAnyH_ready (rs := [5]) (by kernel_rfl) (by simp) (AllReadyH.cons rfl (fun K hK => ?_) AllReadyH.nil)
        go_simp
        refine (O.out _).mono ?_; rintro e w2 ⟨rfl, q2⟩
        have s2 := hH.quiet q2
        have ra := Lib.hid ((show Row wr.drew w1.heap.size 48 _ from R1.out).below q2.2 (show w1.heap.size < wr.drew.heap.size from R1.out.lt))
        refine hK.out _ _ s2 (fun _ => ?_)
        clear hK
        try simp only [List.getElem_toArray, List.getElem_cons_zero, List.getElem_cons_succ, Act.put, List.setIfInBounds_toArray, List.set_cons_zero, List.set_cons_succ]
        refine wpAnyH_ready (rs := [6]) (by kernel_rfl) (by simp) (AllReadyH.cons rfl (fun K hK => ?_) AllReadyH.nil)
        go_simp
        refine (P.out _).mono ?_; rintro e w3 ⟨⟨u', N', rfl, n0, n1, hx'⟩, q3⟩
        have s3 := s2.quiet q3
        have HN := Lib.hid (show 0 ≤ N' ∧ N' ≤ 9223372036854775808 * ((k + 1 : Nat) : Int) ∧ sgn u' N' = sm (zs.take (k + 1)) from ⟨n0, n1, hx'⟩)
        clear n0 n1 hx'
        have rb := ra.out.below q3.2 ra.out.lt
        refine hK.out _ _ s3 (fun _ => ?_)
        clear hK
        try simp only [List.getElem_toArray, List.getElem_cons_zero, List.getElem_cons_succ, Act.put, List.setIfInBounds_toArray, List.set_cons_zero, List.set_cons_succ]
        refine wpAnyH_ready (rs := [7]) (by kernel_rfl) (by simp) (AllReadyH.cons rfl (fun K hK => ?_) AllReadyH.nil)
        rw [if_pos (by rfl)]
        refine wp_store_row 48 (.tmp 3) (.tmp 18) rfl w1.heap.size (nm u' (dgs N')) rfl rfl 48 _ rb (by kernel_rfl) rfl (nm_one _ _) ?_
        have s4 := s3.setRow hb rb (by omega) (nm u' (dgs N'))
        refine hK.out _ _ s4 (fun _ => ?_)
        clear hK
        refine wpAnyH_done (by kernel_rfl) ?_ _
        simp only [List.getElem_toArray, List.getElem_cons_zero, List.getElem_cons_succ, Act.put]
        have rz := ((show Row wr.drew w.heap.size 48 (nm false fun _ => 0) from R2.out).below (w' := w3) ((q2.2.trans (q3.2.mono q2.2.size))) (show w.heap.size < wr.drew.heap.size from R2.out.lt)).apart (g' := w1.heap.size) (by omega) (nm u' (dgs N'))
        have RZ := Lib.hid (And.intro (rb.whole (nm u' (dgs N'))) (And.intro rz s4.2))
        clear s4 s3 rb rz
        go_wp2
        go_roundw
        case rel => exact ⟨k + 1, u', N', by omega, by go_num, RZ.out.1, HN.out.1, HN.out.2.1, HN.out.2.2, RZ.out.2.1, RZ.out.2.2⟩
        case measure => simp [intOf]; omega
      · go_simp
        refine (O.out _).mono ?_; rintro e w2 ⟨rfl, q2⟩
        have s2 := hH.quiet q2
        have ra := Lib.hid ((show Row wr.drew w1.heap.size 48 _ from R1.out).below q2.2 (show w1.heap.size < wr.drew.heap.size from R1.out.lt))
        refine hK.out _ _ s2 (fun _ => ?_)
        clear hK
        try simp only [List.getElem_toArray, List.getElem_cons_zero, List.getElem_cons_succ, Act.put, List.setIfInBounds_toArray, List.set_cons_zero, List.set_cons_succ]
        refine wpAnyH_ready (rs := [0]) (by kernel_rfl) (by simp) (AllReadyH.cons rfl (fun K hK => ?_) AllReadyH.nil)
        rw [if_pos (by rfl)]
        refine wp_load_row 48 (.tmp 3) rfl w1.heap.size rfl 48 (nm u (dgs M)) (0, 0) _ ra.out Try.underlying48 rfl (by kernel_rfl) ?_
        refine hK.out _ _ s2 (fun _ => ?_)
        clear hK
        try simp only [List.getElem_toArray, List.getElem_cons_zero, Act.put, List.setIfInBounds_toArray, List.set_cons_zero, List.set_cons_succ]
        refine wpAnyH_ready (rs := [6]) (by kernel_rfl) (by simp) (AllReadyH.cons rfl (fun K hK => ?_) AllReadyH.nil)
        go_simp
        refine (P.out _).mono ?_; rintro e w3 ⟨⟨u', N', rfl, n0, n1, hx'⟩, q3⟩
        have s3 := s2.quiet q3
        have HN := Lib.hid (show 0 ≤ N' ∧ N' ≤ 9223372036854775808 * ((k + 1 : Nat) : Int) ∧ sgn u' N' = sm (zs.take (k + 1)) from ⟨n0, n1, hx'⟩)
        clear n0 n1 hx'
        have rb := ra.out.below q3.2 ra.out.lt
        refine hK.out _ _ s3 (fun _ => ?_)
        clear hK
        try simp only [List.getElem_toArray, List.getElem_cons_zero, List.getElem_cons_succ, Act.put, List.setIfInBounds_toArray, List.set_cons_zero, List.set_cons_succ]
        refine wpAnyH_ready (rs := [7]) (by kernel_rfl) (by simp) (AllReadyH.cons rfl (fun K hK => ?_) AllReadyH.nil)
        rw [if_pos (by rfl)]
        refine wp_store_row 48 (.tmp 3) (.tmp 18) rfl w1.heap.size (nm u' (dgs N')) rfl rfl 48 _ rb (by kernel_rfl) rfl (nm_one _ _) ?_
        have s4 := s3.setRow hb rb (by omega) (nm u' (dgs N'))
        refine hK.out _ _ s4 (fun _ => ?_)
        clear hK
        refine wpAnyH_done (by kernel_rfl) ?_ _
        simp only [List.getElem_toArray, List.getElem_cons_zero, List.getElem_cons_succ, Act.put]
        have rz := ((show Row wr.drew w.heap.size 48 (nm false fun _ => 0) from R2.out).below (w' := w3) ((q2.2.trans (q3.2.mono q2.2.size))) (show w.heap.size < wr.drew.heap.size from R2.out.lt)).apart (g' := w1.heap.size) (by omega) (nm u' (dgs N'))
        have RZ := Lib.hid (And.intro (rb.whole (nm u' (dgs N'))) (And.intro rz s4.2))
        clear s4 s3 rb rz
        go_wp2
        go_roundw
        case rel => exact ⟨k + 1, u', N', by omega, by go_num, RZ.out.1, HN.out.1, HN.out.2.1, HN.out.2.2, RZ.out.2.1, RZ.out.2.2⟩
        case measure => simp [intOf]; omega
    · obtain rfl : k = len := by omega
      have hT : zs.take k = zs := by rw [← HZ.out]; exact List.take_length
      rw [hT] at ms
      have HP := Lib.hid (And.intro m0 (And.intro m1 ms))
      have HQ := Lib.hid hq
      have R2 := Lib.hid r2
      have R1 := Lib.hid r1
      clear m0 m1 ms hT hq r1 r2
      go_wp2_with (first
        | (refine wl_load_nm w1.heap.size u (dgs M) ?_ ?_ ?_; rfl; exact R1.out)
        | (refine wl_store_nm w.heap.size u false (dgs M) (fun _ => 0) ?_ ?_ ?_ ?_; rfl; rfl; exact R2.out))
      exact bodyPost_ret (v := .agg (nm u (dgs M))) (results_cell_row rfl _ _ w.heap.size 48 _ (0, 0) _ rfl (R2.out.whole _) Try.underlying48 rfl (by kernel_rfl)) rfl
        ⟨⟨u, M, rfl, HP.out.1, HP.out.2.1, HP.out.2.2⟩, HQ.out.setRow R2.out (Nat.le_refl _) _⟩
end Go.Proofs.Ytpfhkmppbochnaa
