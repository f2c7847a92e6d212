/- Contracts of the document's plain numbers, part one: sums and differences of sizes in twelve digits, and their comparison. -/
import Derived.Test.YtlbekdpmfjhjhaaRefMath
import Derived.Test.YtlbekdpmfjhjhaaKnown
import Derived.BigQuiet
import Derived.Deep.QuietTactic
import Derived.Deep.MidRow
import Derived.Great.BuildSlice
namespace Go.Proofs.Ytlbekdpmfjhjhaa
open Go.RowKit

/-- Twelve digits, as cells. -/
def ar (f : Nat → Int) : Array Value := #[.int .u64 (f 0), .int .u64 (f 1), .int .u64 (f 2), .int .u64 (f 3), .int .u64 (f 4), .int .u64 (f 5), .int .u64 (f 6), .int .u64 (f 7), .int .u64 (f 8), .int .u64 (f 9), .int .u64 (f 10), .int .u64 (f 11)]
theorem ar_size (f : Nat → Int) : (ar f).size = 12 := rfl
theorem ar_get (f : Nat → Int) (k : Nat) (h : k < 12) : (ar f)[k]? = some (.int .u64 (f k)) := by
  match k, h with
  | 0, _ => rfl
  | 1, _ => rfl
  | 2, _ => rfl
  | 3, _ => rfl
  | 4, _ => rfl
  | 5, _ => rfl
  | 6, _ => rfl
  | 7, _ => rfl
  | 8, _ => rfl
  | 9, _ => rfl
  | 10, _ => rfl
  | 11, _ => rfl
theorem ar_ext {f g : Nat → Int} (h : ∀ k, k < 12 → f k = g k) : ar f = ar g := by
  unfold ar
  rw [h 0 (by omega), h 1 (by omega), h 2 (by omega), h 3 (by omega), h 4 (by omega), h 5 (by omega), h 6 (by omega), h 7 (by omega), h 8 (by omega), h 9 (by omega), h 10 (by omega), h 11 (by omega)]
/-- One digit anew. -/
def upd (f : Nat → Int) (i : Nat) (v : Int) : Nat → Int := fun k => if k = i then v else f k
theorem ar_set (f : Nat → Int) (i : Nat) (v : Int) : (ar f).setIfInBounds i (.int .u64 v) = ar (upd f i v) := by
  by_cases h : i < 12
  · match i, h with
    | 0, _ => rfl
    | 1, _ => rfl
    | 2, _ => rfl
    | 3, _ => rfl
    | 4, _ => rfl
    | 5, _ => rfl
    | 6, _ => rfl
    | 7, _ => rfl
    | 8, _ => rfl
    | 9, _ => rfl
    | 10, _ => rfl
    | 11, _ => rfl
  · rw [Array.setIfInBounds_eq_of_size_le (by rw [ar_size]; omega)]
    exact ar_ext fun k hk => by unfold upd; rw [if_neg (by omega)]
theorem ar_one (f : Nat → Int) : (ar f).all (·.oneCell') = true := by unfold ar; simp [Value.oneCell']
/-- The digits of a size. -/
def dgs (N : Int) : Nat → Int := Rf.dg N

/-- A block of cells that may be written. -/
def Row (w : World) (g : Nat) (t : TypeId) (cs : Array Value) : Prop := w.heap[g]? = some (.cells cs t (0, 0))
theorem Row.cell {w : World} {g : Nat} {t : TypeId} {f : Nat → Int} (h : Row w g t (ar f)) (k : Nat) (hk : k < 12) : w.cell? ⟨g, k, none⟩ = some (.int .u64 (f k)) := by
  rw [cell_of_row _ _ _ _ _ _ h]; exact ar_get f k hk
theorem Row.free {w : World} {g : Nat} {t : TypeId} {cs : Array Value} (h : Row w g t cs) (k : Nat) : w.frozen? ⟨g, k, none⟩ = false := frozen_of_row w g k cs t h
theorem Row.drewN {w : World} {g : Nat} {t : TypeId} {cs : Array Value} (h : Row w g t cs) (n : Nat) : Row (w.drewN n) g t cs := h
theorem Row.put {w : World} {g : Nat} {t : TypeId} {f : Nat → Int} (h : Row w g t (ar f)) (i : Nat) (v : Int) : Row (w.setCell ⟨g, i, none⟩ (.int .u64 v)) g t (ar (upd f i v)) := by
  have := heap_setCell_same w g i _ t (.int .u64 v) h
  rwa [ar_set] at this
theorem Row.far {w : World} {g : Nat} {t : TypeId} {cs : Array Value} (h : Row w g t cs) {g' i : Nat} (hne : g ≠ g') (v : Value) : Row (w.setCell ⟨g', i, none⟩ v) g t cs :=
  (heap_setCell_other w ⟨g', i, none⟩ g v hne).trans h
theorem Row.lt {w : World} {g : Nat} {t : TypeId} {cs : Array Value} (h : Row w g t cs) : g < w.heap.size := (Array.getElem?_eq_some_iff.1 h).1
theorem Row.alloc {w : World} {g : Nat} {t : TypeId} {cs : Array Value} (h : Row w g t cs) (o : Obj) : Row (w.alloc o) g t cs := (Below.heap_alloc w o g h.lt).trans h
theorem Row.new (w : World) (t : TypeId) (cs : Array Value) : Row (w.alloc (.cells cs t)) w.heap.size t cs := heap_alloc_new w _
theorem Row.at_ (w : World) (t : TypeId) (cs : Array Value) {k : Nat} (h : w.heap.size = k) : Row (w.alloc (.cells cs t)) k t cs := by subst h; exact Row.new w t cs
theorem Row.below {w w' : World} {B g : Nat} {t : TypeId} {cs : Array Value} (h : Row w g t cs) (b : Below B w w') (hg : g < B) : Row w' g t cs := (b.block g hg).trans h

theorem Quiet.setCell {a b : World} (h : Quiet a b) {p : Addr} (hp : a.heap.size ≤ p.block) (v : Value) : Quiet a (b.setCell p v) := ⟨h.1.setCell hp v, h.2.setCell hp v⟩
theorem Row.whole {w : World} {g : Nat} {t : TypeId} {cs : Array Value} (h : Row w g t cs) (cs' : Array Value) : Row (w.setRow g cs') g t cs' := setRow_heap w g cs cs' t (0, 0) h
theorem Row.apart {w : World} {g g' : Nat} {t : TypeId} {cs : Array Value} (h : Row w g t cs) (hne : g ≠ g') (cs' : Array Value) : Row (w.setRow g' cs') g t cs := (setRow_other w g' g cs' hne).trans h
theorem Quiet.setRow {a b : World} (h : Quiet a b) {g : Nat} {t : TypeId} {cs : Array Value} (r : Row b g t cs) (hg : a.heap.size ≤ g) (cs' : Array Value) : Quiet a (b.setRow g cs') := by
  have hb : Below a.heap.size a (b.setRow g cs') := ⟨h.2.os, h.2.tape, h.2.output, by rw [size_setRow]; exact h.2.size, fun k hk => (setRow_other b g k cs' (by omega)).trans (h.2.block k hk)⟩
  refine ⟨⟨⟨hb.os, hb.output, fun i hi => ?_⟩, fun x => ?_, by rw [size_setRow]; exact h.2.size⟩, hb⟩
  · rw [hb.block i hi]
    split
    · rename_i e1 e2; rw [e1] at e2; cases e2; exact ⟨rfl, rfl, rfl, fun _ _ => rfl⟩
    · rename_i e1 e2; rw [e1] at e2; cases e2; exact .inr ⟨rfl, rfl⟩
    · rfl
  · rw [← h.1.2.1 x]
    unfold World.frozen?
    by_cases e : x.block = g
    · rw [e, r.whole cs', show b.heap[g]? = _ from r]
    · rw [setRow_other b g x.block cs' e]
/-- The first k digits of f, then those of g. -/
def mix (k : Nat) (f g : Nat → Int) : Nat → Int := fun j => if j < k then f j else g j
theorem mix_at (k : Nat) (f g : Nat → Int) : mix k f g k = g k := if_neg (Nat.lt_irrefl k)
theorem mix_put (k : Nat) (f g : Nat → Int) {v : Int} (h : v = f k) : ar (upd (mix k f g) k v) = ar (mix (k + 1) f g) := by
  refine ar_ext fun j _ => ?_
  unfold upd mix
  by_cases e : j = k
  · subst e; rw [if_pos rfl, if_pos (by omega), h]
  · rw [if_neg e]
    by_cases l : j < k
    · rw [if_pos l, if_pos (by omega)]
    · rw [if_neg l, if_neg (by omega)]
theorem mix_zero (f g : Nat → Int) : ar (mix 0 f g) = ar g := ar_ext fun _ _ => rfl
theorem mix_all (f g : Nat → Int) : ar (mix 12 f g) = ar f := ar_ext fun _ h => if_pos h
theorem dgs_bd (N : Int) (k : Nat) : 0 ≤ dgs N k ∧ dgs N k ≤ 65535 := Rf.dg_bd N k
def zs12 : Array Value := #[.int .u64 0, .int .u64 0, .int .u64 0, .int .u64 0, .int .u64 0, .int .u64 0, .int .u64 0, .int .u64 0, .int .u64 0, .int .u64 0, .int .u64 0, .int .u64 0]

set_option maxHeartbeats 1000000 in
theorem plus_any (A B : Int) (w : World) :
    Calls Try.prog 28 #[.agg (ar (dgs A)), .agg (ar (dgs B))] w fun e w' => e = .returned (.agg (ar (dgs (A + B)))) ∧ Quiet w w' := by
  go_enter Try.func28, Try.ntmps28
  go_wp2
  go_loopw [5, 6] (fun c i wr => ∃ k : Nat, k ≤ 12 ∧ i = .int .i64 k ∧ c = .int .u64 (Rf.pc A B k) ∧ Row wr w.heap.size 45 (ar (mix k (dgs (A + B)) (dgs A))) ∧ Row wr (w.heap.size + 1) 45 (ar (dgs B)) ∧
      Row wr (w.heap.size + 1 + 1) 45 zs12 ∧ Quiet w wr) (fun _ i _ => 12 - (intOf i).toNat)
  case atStart =>
    refine ⟨0, by omega, rfl, by rw [Rf.pc_zero], ?_, ?_, ?_, ?_⟩
    · rw [mix_zero]; exact ((Row.new w _ _).alloc _).alloc _
    · exact (Row.at_ (w.alloc _) _ _ (by simp)).alloc _
    · exact Row.at_ ((w.alloc _).alloc _) _ _ (by simp)
    · exact (((Quiet.refl w).alloc _ _).alloc _ _).alloc _ _
  case round =>
    obtain ⟨k, hk, rfl, rfl, r1, r2, r3, hq⟩ := hrel
    by_cases hlt : k < 12
    · have c1 := r1.cell k hlt
      rw [mix_at] at c1
      have c2 := r2.cell k hlt
      have f1 := r1.free k
      have b1 := Rf.pc_bd A B k
      have b2 := dgs_bd A k
      have b3 := dgs_bd B k
      have R1 := Lib.hid r1
      have R2 := Lib.hid r2
      have R3 := Lib.hid r3
      have HQ := Lib.hid hq
      have E1 := Lib.hid (Rf.pc_succ A B k)
      have E2 := Lib.hid (Rf.dg_add A B k)
      clear r1 r2 r3 hq
      go_wp2
      go_quiet (fail)
      go_wp2
      go_roundw
      case rel =>
        refine ⟨k + 1, by omega, by go_num, by rw [E1.out]; rfl, ?_, ?_, ?_, ?_⟩
        · rw [← mix_put k (dgs (A + B)) (dgs A) E2.out.symm]; exact (R1.out.drewN nq).put k _
        · exact (R2.out.drewN nq).far (by omega) _
        · exact (R3.out.drewN nq).far (by omega) _
        · exact (HQ.out.drewN nq).setCell (Nat.le_refl _) _
      case measure => simp [intOf]; omega
    · obtain rfl : k = 12 := by omega
      rw [mix_all] at r1
      have h2 : w.heap.size + 1 + 1 < wr.heap.size := r3.lt
      go_wp2_with (first
        | (refine wpList_load_row rfl 45 _ rfl w.heap.size rfl 45 _ (0, 0) _ r1 Try.underlying45 rfl (by kernel_rfl) ?_)
        | (refine wpList_store_row rfl 45 _ _ rfl (w.heap.size + 1 + 1) _ rfl rfl 45 _ r3 (by kernel_rfl) rfl (ar_one _) ?_))
      exact bodyPost_ret (v := .agg (ar (dgs (A + B)))) (results_cell_row rfl _ _ (w.heap.size + 1 + 1) 45 _ (0, 0) _ rfl (r3.whole _) Try.underlying45 rfl (by kernel_rfl)) rfl
        ⟨rfl, hq.setRow r3 (by omega) _⟩
end Go.Proofs.Ytlbekdpmfjhjhaa
