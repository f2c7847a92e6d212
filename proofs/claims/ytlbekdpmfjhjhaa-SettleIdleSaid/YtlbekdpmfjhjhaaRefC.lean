/- Contracts of the document's plain numbers, part three: a number with its sign, made from an int64, turned, and read back. -/
import Derived.Test.YtlbekdpmfjhjhaaRefB
namespace Go.Proofs.Ytlbekdpmfjhjhaa
open Go.RowKit

/-- A sign and twelve digits, as cells. -/
def nm (s : Bool) (f : Nat → Int) : Array Value := #[.bool s, .int .u64 (f 0), .int .u64 (f 1), .int .u64 (f 2), .int .u64 (f 3), .int .u64 (f 4), .int .u64 (f 5), .int .u64 (f 6), .int .u64 (f 7), .int .u64 (f 8), .int .u64 (f 9), .int .u64 (f 10), .int .u64 (f 11)]
theorem nm_size (s : Bool) (f : Nat → Int) : (nm s f).size = 13 := rfl
theorem nm_get (s : Bool) (f : Nat → Int) (k : Nat) (h : k < 12) : (nm s f)[k + 1]? = some (.int .u64 (f k)) := by
  match k, h with
  | 0, _ => rfl
  | 1, _ => rfl
  | 2, _ => rfl
  | 3, _ => rfl
  | 4, _ => rfl
  | 5, _ => rfl
  | 6, _ => rfl
  | 7, _ => rfl
  | 8, _ => rfl
  | 9, _ => rfl
  | 10, _ => rfl
  | 11, _ => rfl
theorem nm_ext {s : Bool} {f g : Nat → Int} (h : ∀ k, k < 12 → f k = g k) : nm s f = nm s g := by
  unfold nm
  rw [h 0 (by omega), h 1 (by omega), h 2 (by omega), h 3 (by omega), h 4 (by omega), h 5 (by omega), h 6 (by omega), h 7 (by omega), h 8 (by omega), h 9 (by omega), h 10 (by omega), h 11 (by omega)]
theorem nm_set (s : Bool) (f : Nat → Int) (i : Nat) (v : Int) (h : i < 12) : (nm s f).setIfInBounds (i + 1) (.int .u64 v) = nm s (upd f i v) := by
  match i, h with
  | 0, _ => rfl
  | 1, _ => rfl
  | 2, _ => rfl
  | 3, _ => rfl
  | 4, _ => rfl
  | 5, _ => rfl
  | 6, _ => rfl
  | 7, _ => rfl
  | 8, _ => rfl
  | 9, _ => rfl
  | 10, _ => rfl
  | 11, _ => rfl
theorem nm_one (s : Bool) (f : Nat → Int) : (nm s f).all (·.oneCell') = true := by unfold nm; simp [Value.oneCell']
theorem Row.digit {w : World} {g : Nat} {t : TypeId} {s : Bool} {f : Nat → Int} (h : Row w g t (nm s f)) (k : Nat) (hk : k < 12) : w.cell? ⟨g, 1 + k, none⟩ = some (.int .u64 (f k)) := by
  rw [cell_of_row _ _ _ _ _ _ h, Nat.add_comm]; exact nm_get s f k hk
theorem Row.sign {w : World} {g : Nat} {t : TypeId} {s : Bool} {f : Nat → Int} (h : Row w g t (nm s f)) : w.cell? ⟨g, 0, none⟩ = some (.bool s) := by
  rw [cell_of_row _ _ _ _ _ _ h]; rfl
theorem Row.putN {w : World} {g : Nat} {t : TypeId} {s : Bool} {f : Nat → Int} (h : Row w g t (nm s f)) (i : Nat) (v : Int) (hi : i < 12) : Row (w.setCell ⟨g, 1 + i, none⟩ (.int .u64 v)) g t (nm s (upd f i v)) := by
  have := heap_setCell_same w g (1 + i) _ t (.int .u64 v) h
  rwa [Nat.add_comm 1 i, nm_set s f i v hi, Nat.add_comm i 1] at this

/-- A whole array out of the middle of a block. -/
theorem wpList_load_ar {P : Program} {ops : Array Oper} {rest : List Oper} {op : Oper} {a : Act} {w : World} {Q : Exit → Act → World → Prop} (hgd : op.guard = none) (ty : TypeId) (x : Operand) (ho : op.op = .load ty x)
    (b o : Nat) (hx : a.eval x = .pointer (some ⟨b, o, none⟩)) (f : Nat → Int) (d : TypeDesc) (hc : w.rangeAt b o (ar f).toList)
    (hu : P.underlying ty = some d) (hd : d.isRow = true) (hi : (P.info? ty).map (·.size) = some 12)
    (h : wpList P ops Q rest (a.put op.dst (.agg (ar f))) w) : wpList P ops Q (op :: rest) a w :=
  wpList_load_mid hgd ty x ho b o hx (ar f).toList d hc hu hd hi (by rw [Array.toArray_toList]; exact h)
theorem Row.range {w : World} {g : Nat} {t : TypeId} {s : Bool} {f : Nat → Int} (h : Row w g t (nm s f)) : w.rangeAt g 1 (ar f).toList := by
  intro j v hj
  have hlt : j < 12 := (List.getElem?_eq_some_iff.1 hj).1
  rw [h.digit j hlt, ← ar_get f j hlt]
  simpa using hj
theorem Row.range0 {w : World} {g : Nat} {t : TypeId} {f : Nat → Int} (h : Row w g t (ar f)) : w.rangeAt g 0 (ar f).toList := by
  intro j v hj
  have hlt : j < 12 := (List.getElem?_eq_some_iff.1 hj).1
  rw [Nat.zero_add, h.cell j hlt, ← ar_get f j hlt]
  simpa using hj

/-- Are all twelve digits 0? -/
def zf (f : Nat → Int) : Bool := f 0 == 0 && (f 1 == 0 && (f 2 == 0 && (f 3 == 0 && (f 4 == 0 && (f 5 == 0 && (f 6 == 0 && (f 7 == 0 && (f 8 == 0 && (f 9 == 0 && (f 10 == 0 && f 11 == 0))))))))))
theorem ite_z {w : World} {X : Result Bool} {b : Bool} (a : Int) (h : X = .ok b w) : (if a = 0 then X else Result.ok false w) = .ok (a == 0 && b) w := by
  by_cases e : a = 0
  · rw [if_pos e, h, e]; rfl
  · rw [if_neg e, show (a == 0) = false from by simpa using e]; rfl
theorem ite_l {w : World} (a : Int) : (if a = 0 then Result.ok true w else Result.ok false w) = .ok (a == 0) w := by
  by_cases e : a = 0
  · rw [if_pos e, e]; rfl
  · rw [if_neg e, show (a == 0) = false from by simpa using e]
set_option maxHeartbeats 1000000 in
theorem eq_zero (f : Nat → Int) (w : World) : (Op.equalIn 10000 45 (.agg (ar f)) (.agg zs12)).run Try.prog w = .ok (zf f) w := by
  have u3 := Try.underlying44
  have a3 := Try.isAgg44
  have z3 := Try.sizeOf44
  unfold ar zs12
  rw [show (10000 : Nat) = 9999 + 1 from rfl, Op.equalIn]
  simp only [Sem.run_bind, run_underlying Try.underlying45, Result.andThen_ok]
  simp only [Std.Legacy.Range.forIn_eq_forIn_range', Std.Legacy.Range.size, Nat.sub_zero, Nat.add_sub_cancel, Nat.div_one, List.range'_succ, List.range'_zero, List.forIn_cons, List.forIn_nil]
  go_simp
  unfold zf
  exact ite_z _ (ite_z _ (ite_z _ (ite_z _ (ite_z _ (ite_z _ (ite_z _ (ite_z _ (ite_z _ (ite_z _ (ite_z _ (ite_l _)))))))))))
theorem zf_of (N : Int) (h0 : 0 ≤ N) (h1 : N < Rf.T 12) : zf (dgs N) = decide (N = 0) := by
  by_cases e : N = 0
  · subst e; rfl
  · rw [decide_eq_false e]
    cases h : zf (dgs N)
    · rfl
    · exfalso
      unfold zf at h
      simp only [Bool.and_eq_true, beq_iff_eq] at h
      obtain ⟨a0, a1, a2, a3, a4, a5, a6, a7, a8, a9, a10, a11⟩ := h
      unfold dgs at a0 a1 a2 a3 a4 a5 a6 a7 a8 a9 a10 a11
      have b12 := Rf.small h0 h1
      have st : ∀ k, N / Rf.T (k + 1) = 0 → Rf.dg N k = 0 → N / Rf.T k = 0 := fun k h h' => by rw [Rf.div_dg, h, h']; rfl
      have b0 := st 0 (st 1 (st 2 (st 3 (st 4 (st 5 (st 6 (st 7 (st 8 (st 9 (st 10 (st 11 b12 a11) a10) a9) a8) a7) a6) a5) a4) a3) a2) a1) a0
      rw [Rf.at_zero] at b0
      exact e b0
theorem zero_any (s : Bool) (N : Int) (h0 : 0 ≤ N) (h1 : N < Rf.T 12) (w : World) :
    Calls Try.prog 19 #[.agg (nm s (dgs N))] w fun e w' => e = .returned (.bool (decide (N = 0))) ∧ Quiet w w' := by
  have hz := Lib.hid (zf_of N h0 h1)
  have he := fun W => eq_zero (dgs N) W
  unfold zs12 at he
  have hr := (Row.new w 47 (nm s (dgs N))).range
  clear h0 h1
  go_enter Try.func19, Try.ntmps19
  go_wp2_with (refine wpList_load_ar rfl 45 _ rfl w.heap.size 1 rfl (dgs N) _ hr Try.underlying45 rfl (by kernel_rfl) ?_)
  go_ret
  exact ⟨retB hz.out, (Quiet.refl w).alloc _ _⟩

theorem mixN_put (s : Bool) (k : Nat) (f g : Nat → Int) {v : Int} (h : v = f k) : nm s (upd (mix k f g) k v) = nm s (mix (k + 1) f g) := by
  refine nm_ext fun j _ => ?_
  unfold upd mix
  by_cases e : j = k
  · subst e; rw [if_pos rfl, if_pos (by omega), h]
  · rw [if_neg e]
    by_cases l : j < k
    · rw [if_pos l, if_pos (by omega)]
    · rw [if_neg l, if_neg (by omega)]
theorem of_step (M : Int) (k : Nat) : M / Rf.T k % 65536 = dgs M k ∧ M / Rf.T k / 65536 = M / Rf.T (k + 1) := ⟨rfl, (Rf.div_succ M k).symm⟩
theorem div_bd (M : Int) (k : Nat) (h0 : 0 ≤ M) : 0 ≤ M / Rf.T k ∧ M / Rf.T k ≤ M := by
  refine ⟨Int.ediv_nonneg h0 (Int.le_of_lt (Rf.T_pos k)), Int.ediv_le_self _ h0⟩
theorem high_zero (M : Int) (k : Nat) (h0 : 0 ≤ M) (h1 : M ≤ 9223372036854775808) (h : 4 ≤ k) : dgs M k = 0 := by
  unfold dgs Rf.dg
  have : M / Rf.T k = 0 := by
    refine Rf.small h0 ?_
    obtain ⟨m, rfl⟩ : ∃ m, k = 4 + m := ⟨k - 4, by omega⟩
    have h3 := Rf.T_pos m
    have h4 := Int.mul_le_mul_of_nonneg_left (show 1 ≤ Rf.T m by omega) (show 0 ≤ Rf.T 4 by decide)
    rw [Int.mul_one, ← Rf.T_add] at h4
    have h5 : Rf.T 4 = 18446744073709551616 := by decide
    omega
  rw [this]; rfl
theorem mix_of (s : Bool) (M : Int) (h0 : 0 ≤ M) (h1 : M ≤ 9223372036854775808) : nm s (mix 4 (dgs M) fun _ => 0) = nm s (dgs M) := nm_ext fun k _ => by
  unfold mix
  by_cases h : k < 4
  · rw [if_pos h]
  · rw [if_neg h, high_zero M k h0 h1 (by omega)]

set_option maxHeartbeats 2000000 in
theorem of_any (a : Int) (ha : I64 a) (w : World) :
    Calls Try.prog 17 #[.int .i64 a] w fun e w' => e = .returned (.agg (nm (decide (a < 0)) (dgs (mag a)))) ∧ Quiet w w' := by
  have hm := mag_bd a ha
  unfold I64 at ha
  obtain ⟨ha1, ha2⟩ := ha
  obtain ⟨M, hMe⟩ : ∃ M, mag a = M := ⟨_, rfl⟩
  rw [hMe] at hm ⊢
  obtain ⟨hm1, hm2⟩ := hm
  have HM := Lib.hid hMe
  clear hMe
  obtain ⟨s, hs⟩ : ∃ s, decide (a < 0) = s := ⟨_, rfl⟩
  rw [hs]
  have hM : (s = false ∧ (decide (a < 0) = false ∧ 0 ≤ a) ∧ a = M) ∨  (s = true ∧ a < 0 ∧ -(a + 1) + 1 = M) := by
    have := HM.out
    unfold mag at this
    by_cases h : a < 0
    · rw [if_pos h] at this
      exact .inr ⟨by rw [← hs]; exact decide_eq_true h, h, by omega⟩
    · rw [if_neg h] at this
      exact .inl ⟨by rw [← hs]; exact decide_eq_false h, ⟨decide_eq_false h, by omega⟩, this⟩
  clear HM hs
  rcases hM with ⟨rfl, ⟨hd, h⟩, he⟩ | ⟨rfl, h, he⟩
  all_goals
    have HE := Lib.hid he
    clear he
    go_enter Try.func17, Try.ntmps17
    go_wp2
  · go_loopw [3, 5] (fun n i wr => ∃ k : Nat, k ≤ 4 ∧ i = .int .i64 k ∧ n = .int .u64 (M / Rf.T k) ∧ Row wr w.heap.size 47 (nm false fun _ => 0) ∧
      Row wr (w.heap.size + 1) 47 (nm false (mix k (dgs M) fun _ => 0)) ∧ Quiet w wr) (fun _ i _ => 4 - (intOf i).toNat)
    case atStart => exact ⟨0, by omega, rfl, by rw [Rf.at_zero, ← HE.out], (Row.new w _ _).alloc _, by exact Row.at_ (w.alloc _) _ _ (by simp), ((Quiet.refl w).alloc _ _).alloc _ _⟩
    case round =>
      obtain ⟨k, hk, rfl, rfl, r1, r2, hq⟩ := hrel
      by_cases hlt : k < 4
      · have f1 := r2.free (1 + k)
        have c1 := r2.digit k (by omega)
        have b1 := div_bd M k hm1
        obtain ⟨b1, b2⟩ := b1
        have R1 := Lib.hid r1
        have R2 := Lib.hid r2
        have HQ := Lib.hid hq
        have E := Lib.hid (of_step M k)
        clear r1 r2 hq
        go_wp2
        go_roundw
        case rel =>
          refine ⟨k + 1, by omega, by go_num, by rw [E.out.2], R1.out.far (by omega) _, ?_, HQ.out.setCell (Nat.le_succ _) _⟩
          rw [← mixN_put false k (dgs M) (fun _ => 0) E.out.1]
          exact R2.out.putN k _ (by omega)
        case measure => simp [intOf]; omega
      · obtain rfl : k = 4 := by omega
        rw [mix_of _ M hm1 hm2] at r2
        go_wp2_with (first
          | (refine wpList_load_row rfl 47 _ rfl (w.heap.size + 1) rfl 47 _ (0, 0) _ r2 Try.underlying47 rfl (by kernel_rfl) ?_)
          | (refine wpList_store_row rfl 47 _ _ rfl w.heap.size _ rfl rfl 47 _ r1 (by kernel_rfl) rfl (nm_one _ _) ?_))
        exact bodyPost_ret (v := .agg (nm false (dgs M))) (results_cell_row rfl _ _ w.heap.size 47 _ (0, 0) _ rfl (r1.whole _) Try.underlying47 rfl (by kernel_rfl)) rfl
          ⟨rfl, hq.setRow r1 (Nat.le_refl _) _⟩
  · go_loopw [3, 5] (fun n i wr => ∃ k : Nat, k ≤ 4 ∧ i = .int .i64 k ∧ n = .int .u64 (M / Rf.T k) ∧ Row wr w.heap.size 47 (nm false fun _ => 0) ∧
      Row wr (w.heap.size + 1) 47 (nm true (mix k (dgs M) fun _ => 0)) ∧ Quiet w wr) (fun _ i _ => 4 - (intOf i).toNat)
    case atStart => exact ⟨0, by omega, rfl, by rw [Rf.at_zero, ← HE.out], (Row.new w _ _).alloc _, by exact Row.at_ (w.alloc _) _ _ (by simp), ((Quiet.refl w).alloc _ _).alloc _ _⟩
    case round =>
      obtain ⟨k, hk, rfl, rfl, r1, r2, hq⟩ := hrel
      by_cases hlt : k < 4
      · have f1 := r2.free (1 + k)
        have c1 := r2.digit k (by omega)
        have b1 := div_bd M k hm1
        obtain ⟨b1, b2⟩ := b1
        have R1 := Lib.hid r1
        have R2 := Lib.hid r2
        have HQ := Lib.hid hq
        have E := Lib.hid (of_step M k)
        clear r1 r2 hq
        go_wp2
        go_roundw
        case rel =>
          refine ⟨k + 1, by omega, by go_num, by rw [E.out.2], R1.out.far (by omega) _, ?_, HQ.out.setCell (Nat.le_succ _) _⟩
          rw [← mixN_put true k (dgs M) (fun _ => 0) E.out.1]
          exact R2.out.putN k _ (by omega)
        case measure => simp [intOf]; omega
      · obtain rfl : k = 4 := by omega
        rw [mix_of _ M hm1 hm2] at r2
        go_wp2_with (first
          | (refine wpList_load_row rfl 47 _ rfl (w.heap.size + 1) rfl 47 _ (0, 0) _ r2 Try.underlying47 rfl (by kernel_rfl) ?_)
          | (refine wpList_store_row rfl 47 _ _ rfl w.heap.size _ rfl rfl 47 _ r1 (by kernel_rfl) rfl (nm_one _ _) ?_))
        exact bodyPost_ret (v := .agg (nm true (dgs M))) (results_cell_row rfl _ _ w.heap.size 47 _ (0, 0) _ rfl (r1.whole _) Try.underlying47 rfl (by kernel_rfl)) rfl
          ⟨rfl, hq.setRow r1 (Nat.le_refl _) _⟩
end Go.Proofs.Ytlbekdpmfjhjhaa
