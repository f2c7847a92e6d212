/- Texts of a proof, laid together: All, AllB, Parts, Split, Scale, Whole. -/
import Derived.OpenShut
import Derived.Deep.OwnRows
import Derived.Test.YtpfhkmppbochnaaG04
import Derived.Test.YtpfhkmppbochnaaG02
/- The walk of the statement FixnumAll: it returns true for every list of int64 numbers, and leaves the memory that was there as it was. -/
namespace Go.Proofs.Ytpfhkmppbochnaa
open Go.RowKit

/-- The sum of none, wherever the list lies. -/
theorem sum_zero (A : Option Addr) (c : Nat) (w : World) :
    Calls Try.prog 18 #[.slice A 0 c] w fun e w' => e = .returned (.tuple #[.int .i64 0, .int .i64 0]) ∧ w = w' := by
  go_enter Try.func18, Try.ntmps18
  go_wp2
  go_loop [4, 5, 6, 11] (fun h l _ i => i = .int .i64 0 ∧ h = .int .u64 0 ∧ l = .int .u64 0) (fun _ _ _ _ => 0)
  case atStart => exact ⟨rfl, rfl, rfl⟩
  case round =>
    obtain ⟨rfl, rfl, rfl⟩ := hrel
    go_wp2_with (go_at_call 29; refine (upper_any 0 (by unfold I64; omega) _).mono ?_; rintro e w' ⟨rfl, rfl⟩)
    go_ret2
    exact ⟨rfl, rfl⟩
set_option maxHeartbeats 1000000 in
theorem sumn_zero (A : Option Addr) (c : Nat) (w : World) :
    Calls Try.prog 20 #[.slice A 0 c] w fun e w' => e = .returned (.agg (nm false (dgs 0))) ∧ Quiet w w' := by
  go_enter Try.func20, Try.ntmps20
  go_wp2_with fail
  refine (of_zero _).mono ?_; rintro e w1 ⟨rfl, hq1⟩
  have hlt1 : w.heap.size < w1.heap.size := by have := hq1.2.size; simp at this; omega
  have r0 : Row w1 w.heap.size 48 (nm false fun _ => 0) := (Row.new w 48 (nm false fun _ => 0)).below hq1.2 (by simp)
  have HQ1 := Lib.hid (((Quiet.refl w).alloc (nm false fun _ => 0) 48).trans hq1)
  have R0 := Lib.hid r0
  clear hq1 r0
  go_wp2_with (refine wl_store_nm w1.heap.size false false (dgs 0) (fun _ => 0) ?_ ?_ ?_ ?_; rfl; rfl; exact Row.new w1 48 (nm false fun _ => 0))
  have rn := Row.new w1 48 (nm false fun _ => 0)
  have RA := Lib.hid (rn.whole (nm false (dgs 0)))
  have RB := Lib.hid ((R0.out.alloc (.cells (nm false fun _ => 0) 48)).apart (g' := w1.heap.size) (by omega) (nm false (dgs 0)))
  have RQ := Lib.hid ((HQ1.out.alloc _ _).setRow rn (by omega) (nm false (dgs 0)))
  clear rn HQ1 R0
  obtain ⟨W, hW⟩ : ∃ W, W = (w1.alloc (.cells (nm false fun _ => 0) 48)).setRow w1.heap.size (nm false (dgs 0)) := ⟨_, rfl⟩
  rw [← hW] at RA RB RQ
  go_loopw [4] (fun i wr => i = .int .i64 0 ∧ wr = W) (fun _ _ => 0)
  case atStart => exact ⟨rfl, hW.symm⟩
  case round =>
    obtain ⟨rfl, rfl⟩ := hrel
    clear hW
    go_wp2_with (first
      | (refine wl_load_nm w1.heap.size false (dgs 0) ?_ ?_ ?_; rfl; exact RA.out)
      | (refine wl_store_nm w.heap.size false false (dgs 0) (fun _ => 0) ?_ ?_ ?_ ?_; rfl; rfl; exact RB.out))
    exact bodyPost_ret (v := .agg (nm false (dgs 0))) (results_cell_row rfl _ _ w.heap.size 48 _ (0, 0) _ rfl (RB.out.whole _) Try.underlying48 rfl (by kernel_rfl)) rfl
      ⟨rfl, RQ.out.setRow RB.out (Nat.le_refl _) _⟩

/-- Where a list of numbers lies: anywhere, if it is empty; else in a row of cells. -/
def Rd (w : World) (A : Option Addr) (n : Nat) (zs : List Int) : Prop :=
  zs.length = n ∧ (0 < n → ∃ b o, A = some ⟨b, o, none⟩ ∧ ∀ j, j < n → w.cell? ⟨b, o + j, none⟩ = some (.int .i64 (zs.getD j 0)))
theorem Rd.below {w w' : World} {A : Option Addr} {n : Nat} {zs : List Int} (h : Rd w A n zs) (b : Below w.heap.size w w') : Rd w' A n zs :=
  ⟨h.1, fun hn => by
    obtain ⟨bl, o, e, hc⟩ := h.2 hn
    exact ⟨bl, o, e, fun j hj => (b.cell (p := ⟨bl, o + j, none⟩) (World.block_lt_of_cell? w _ (hc j hj))).trans (hc j hj)⟩⟩

theorem fsum_any (A : Option Addr) (n c : Nat) (zs : List Int) (w : World) (h : Rd w A n zs) (hbig : n ≤ 1152921504606846975) (hr : ∀ n, n ∈ zs → I64 n) :
    Calls Try.prog 18 #[.slice A n c] w fun e w' => e = .returned (.tuple #[.int .i64 (tN (sm zs)), .int .i64 (tE (sm zs))]) ∧ w = w' := by
  rcases Nat.eq_zero_or_pos n with h0 | h0
  · subst h0
    have : zs = [] := List.eq_nil_of_length_eq_zero h.1
    subst this
    exact sum_zero A c w
  · obtain ⟨b, o, rfl, hc⟩ := h.2 h0
    exact sum_any b o n c zs w h.1 (by omega) hr hc
theorem rsum_num (A : Option Addr) (n c : Nat) (zs : List Int) (w : World) (h : Rd w A n zs) (hbig : n ≤ 1152921504606846975) (hr : ∀ n, n ∈ zs → I64 n) :
    Calls Try.prog 20 #[.slice A n c] w fun e w' => IsNum (sm zs) (9223372036854775808 * (n : Int)) e ∧ Quiet w w' := by
  rcases Nat.eq_zero_or_pos n with h0 | h0
  · subst h0
    have : zs = [] := List.eq_nil_of_length_eq_zero h.1
    subst this
    refine (sumn_zero A c w).mono ?_
    rintro e w' ⟨rfl, hq⟩
    exact ⟨⟨false, 0, rfl, Int.le_refl 0, by decide, rfl⟩, hq⟩
  · obtain ⟨b, o, rfl, hc⟩ := h.2 h0
    exact sum_num b o n c zs w h.1 hbig hr hc
theorem big12 (n : Nat) (h : n ≤ 1152921504606846975) : 9223372036854775808 * (n : Int) < Rf.T 12 := by
  have : (10633823966279326992483775380034977792 : Int) < Rf.T 12 := by decide
  omega















































end Go.Proofs.Ytpfhkmppbochnaa
/- The walk of the statement FixnumAll, its end: it returns true for every list of int64 numbers, and leaves the memory that was there as it was. -/
namespace Go.Proofs.Ytpfhkmppbochnaa
open Go.RowKit

theorem info_int : (Try.prog.info? 2).map (fun i => (i.zero, i.size, i.bytes)) = some (some (.int .i64 0), 1, 8) := by kernel_rfl











/-- The copy of a list that the statement makes. -/
theorem rd_own {w : World} {base n : Nat} {v : Value} {zs : List Int} (h : w.ownsRow base 2 1 v n (zs.map (Value.int .i64))) (hz : zs.length = n) : ∃ A c, v = .slice A n c ∧ Rd w A n zs := by
  rcases h.2 with ⟨rfl, rfl⟩ | ⟨g, cap, cur, rfl, _, _⟩
  · exact ⟨none, 0, rfl, hz, fun h => absurd h (Nat.lt_irrefl 0)⟩
  · refine ⟨some ⟨g, 0, none⟩, cap, rfl, hz, fun _ => ⟨g, 0, rfl, fun j hj => ?_⟩⟩
    rw [Nat.zero_add, h.cellAt j (by omega)]
    simp [List.getD, show j < zs.length by omega]

theorem own_empty (w : World) : (w.alloc (.cells #[] 2)).ownsRow w.heap.size 2 1 (.slice (some ⟨w.heap.size, 0, none⟩) 0 0) 0 [] :=
  ⟨rfl, .inr ⟨w.heap.size, 0, #[], rfl, Nat.le_refl _, heap_alloc_new w _, Nat.le_refl _, by unfold maxLen; omega, rfl, rfl⟩⟩







































































/-- A list that came in, as the row's step hands it over. -/
theorem rd_in {w : World} {a : Option Addr} {len cap : Nat} {zs : List Int}
    (h : (a = none ∧ len = 0 ∧ cap = 0 ∧ zs = []) ∨ ∃ x, a = some x ∧ len ≤ cap ∧ cap ≤ maxLen ∧ zs.length = cap ∧ (∀ i, i < zs.length → w.cell? (x.add i) = some (.int .i64 (zs.getD i 0))) ∧ ∀ n ∈ zs, (Lit.int .i64 n).wf = true) :
    Rd w a len (zs.take len) ∧ (∀ n, n ∈ zs.take len → I64 n) ∧ (a = none → len = 0 ∧ cap = 0) := by
  rcases h with ⟨rfl, rfl, rfl, rfl⟩ | ⟨x, rfl, hl, _, hz, hc, hw⟩
  · exact ⟨⟨rfl, fun h => absurd h (Nat.lt_irrefl 0)⟩, by intro n hn; simp at hn, fun _ => ⟨rfl, rfl⟩⟩
  · refine ⟨⟨by rw [List.length_take]; omega, fun hn => ?_⟩, fun n hn => bounds_i64 (hw n (List.mem_of_mem_take hn)), fun h => by cases h⟩
    obtain ⟨b, off, rfl, hc'⟩ := ints_at hc (by omega)
    refine ⟨b, off, rfl, fun j hj => ?_⟩
    rw [hc' j (by omega)]
    simp [List.getD, hj]
















end Go.Proofs.Ytpfhkmppbochnaa
/- The contract of fixnum's parts: the shares of a total by weights, rounded down, and one more to those of the greatest rests. Conditions: a total and weights that are divided (the sum of the weights is greater than 0 and fits). -/
namespace Go.Proofs.Ytpfhkmppbochnaa
open Go.RowKit Go.Sort

/-- A row of the call's own: n cells of block b hold f. -/
def Rv (enc : Int → Value) (W : World) (b n : Nat) (f : Nat → Int) : Prop := ∀ t, t < n → W.cell? ⟨b, t, none⟩ = some (enc (f t)) ∧ W.frozen? ⟨b, t, none⟩ = false
def ud (i : Nat) (x : Int) (f : Nat → Int) : Nat → Int := fun t => if t = i then x else f t
theorem Rv.set {enc : Int → Value} {W : World} {b n : Nat} {f : Nat → Int} (h : Rv enc W b n f) {i : Nat} (hi : i < n) (x : Int) : Rv enc (W.setCell ⟨b, i, none⟩ (enc x)) b n (ud i x f) := fun t ht => by
  refine ⟨?_, by rw [World.frozen?_setCell]; exact (h t ht).2⟩
  unfold ud
  by_cases e : t = i
  · subst e
    rw [if_pos rfl]
    exact World.cell?_setCell_same _ _ _ (h t ht).1
  · rw [if_neg e, World.cell?_setCell_other _ _ _ _ (by intro k; injection k; omega)]
    exact (h t ht).1
theorem Rv.far {enc : Int → Value} {W : World} {b n : Nat} {f : Nat → Int} (h : Rv enc W b n f) {b' i : Nat} (hb : b' ≠ b) (v : Value) : Rv enc (W.setCell ⟨b', i, none⟩ v) b n f := fun t ht =>
  ⟨by rw [World.cell?_setCell_far _ _ _ _ hb]; exact (h t ht).1, by rw [World.frozen?_setCell]; exact (h t ht).2⟩
theorem Rv.alloc {enc : Int → Value} {W : World} {b n : Nat} {f : Nat → Int} (h : Rv enc W b n f) (c : Array Value) (t : TypeId) : Rv enc (W.alloc (.cells c t)) b n f := fun i hi =>
  ⟨by rw [World.cell?_alloc_lt W _ _ (by exact World.block_lt_of_cell? W _ (h i hi).1)]; exact (h i hi).1, by rw [frozen?_alloc_cells]; exact (h i hi).2⟩
theorem Rv.drewN {enc : Int → Value} {W : World} {b n : Nat} {f : Nat → Int} (h : Rv enc W b n f) (m : Nat) : Rv enc (W.drewN m) b n f := h
theorem Rv.new {enc : Int → Value} (W : World) (n : Nat) (z : Value) (hz : enc 0 = z) (t : TypeId) : Rv enc (W.alloc (.cells (madeCells #[z] n) t)) W.heap.size n fun _ => 0 := fun i hi => by
  refine ⟨?_, World.frozen?_alloc_new _ _ _ _⟩
  rw [World.cell?_alloc_new, hz, ← Array.getElem?_toList, toList_madeCells_one, List.getElem?_replicate, if_pos hi]
/-- The rows in the making: k places are done. -/
def Pt (w W : World) (n k : Nat) (T S : Int) (ws : List Int) : Prop := Quiet w W ∧ Rv (Value.int .i64) W w.heap.size n (fun t => if t < k then Sp.sh T S ws t else 0) ∧
  Rv (Value.int .u64) W (w.heap.size + 1) n (fun t => if t < k then Sp.rs T S ws t else 0) ∧ W.cell? ⟨w.heap.size + 1 + 1, 0, none⟩ = some (.slice (some ⟨w.heap.size + 1, 0, none⟩) n n) ∧
  Rv (Value.int .i64) W (w.heap.size + 1 + 1 + 1) n (fun t => if t < k then (t : Int) else 0)
theorem ud_step {k : Nat} {f : Nat → Int} {x : Int} (hx : x = f k) : ud k x (fun t => if t < k then f t else 0) = fun t => if t < k + 1 then f t else 0 := by
  funext t
  unfold ud
  by_cases h : t = k
  · subst h
    rw [if_pos rfl, if_pos (by omega), hx]
  · rw [if_neg h]
    show (if t < k then f t else 0) = _
    by_cases h2 : t < k
    · rw [if_pos h2, if_pos (by omega)]
    · rw [if_neg h2, if_neg (by omega)]
theorem Pt.start (w : World) (n : Nat) (T S : Int) (ws : List Int) : Pt w ((((w.alloc (.cells (madeCells #[.int .i64 0] n) 2)).alloc (.cells (madeCells #[.int .u64 0] n) 45)).alloc (.cells #[.slice (some ⟨w.heap.size + 1, 0, none⟩) n n] 69)).alloc (.cells (madeCells #[.int .i64 0] n) 3)) n 0 T S ws := by
  refine ⟨((((Quiet.refl w).alloc _ _).alloc _ _).alloc _ _).alloc _ _, ?_, ?_, ?_, ?_⟩
  · simp only [Nat.not_lt_zero, if_false]
    exact (((Rv.new w n _ rfl _).alloc _ _).alloc _ _).alloc _ _
  · simp only [Nat.not_lt_zero, if_false]
    have := Rv.new (enc := Value.int .u64) (w.alloc (.cells (madeCells #[.int .i64 0] n) 2)) n _ rfl 45
    rw [show (w.alloc (.cells (madeCells #[.int .i64 0] n) 2)).heap.size = w.heap.size + 1 by simp] at this
    exact (this.alloc _ _).alloc _ _
  · rw [World.cell?_alloc_lt _ _ _ (by simp)]
    rw [show w.heap.size + 1 + 1 = ((w.alloc (.cells (madeCells #[.int .i64 0] n) 2)).alloc (.cells (madeCells #[.int .u64 0] n) 45)).heap.size by simp, World.cell?_alloc_new]
    rfl
  · simp only [Nat.not_lt_zero, if_false]
    have := Rv.new (enc := Value.int .i64) (((w.alloc (.cells (madeCells #[.int .i64 0] n) 2)).alloc (.cells (madeCells #[.int .u64 0] n) 45)).alloc (.cells #[.slice (some ⟨w.heap.size + 1, 0, none⟩) n n] 69)) n _ rfl 3
    rw [show (((w.alloc (.cells (madeCells #[.int .i64 0] n) 2)).alloc (.cells (madeCells #[.int .u64 0] n) 45)).alloc (.cells #[.slice (some ⟨w.heap.size + 1, 0, none⟩) n n] 69)).heap.size = w.heap.size + 1 + 1 + 1 by simp] at this
    exact this
theorem Pt.drewN {w W : World} {n k : Nat} {T S : Int} {ws : List Int} (h : Pt w W n k T S ws) (m : Nat) : Pt w (W.drewN m) n k T S ws := ⟨h.1.drewN m, h.2.1, h.2.2.1, h.2.2.2.1, h.2.2.2.2⟩
theorem Pt.step {w W : World} {n k : Nat} {T S : Int} {ws : List Int} (h : Pt w W n k T S ws) (hk : k < n) :
    Pt w (((W.setCell ⟨w.heap.size, k, none⟩ (.int .i64 (Sp.sh T S ws k))).setCell ⟨w.heap.size + 1, k, none⟩ (.int .u64 (Sp.rs T S ws k))).setCell ⟨w.heap.size + 1 + 1 + 1, k, none⟩ (.int .i64 k)) n (k + 1) T S ws := by
  obtain ⟨q, r1, r2, r3, r4⟩ := h
  refine ⟨((q.setCell (Nat.le_refl _) _).setCell (by simp) _).setCell (by simp only []; omega) _, ?_, ?_, ?_, ?_⟩
  · rw [← ud_step rfl]
    exact ((r1.set hk _).far (by omega) _).far (by omega) _
  · rw [← ud_step rfl]
    exact ((r2.far (by omega) _).set hk _).far (by omega) _
  · rw [World.cell?_setCell_far _ _ _ _ (by simp), World.cell?_setCell_far _ _ _ _ (by simp), World.cell?_setCell_far _ _ _ _ (by simp; omega)]
    exact r3
  · rw [← ud_step (f := fun t => (t : Int)) rfl]
    exact ((r4.far (by omega) _).far (by omega) _).set hk _

theorem info_u64 : (Try.prog.info? 45).map (fun i => (i.zero, i.size, i.bytes)) = some (some (.int .u64 0), 1, 8) := by kernel_rfl
theorem info_i : (Try.prog.info? 3).map (fun i => (i.zero, i.size, i.bytes)) = some (some (.int .i64 0), 1, 8) := by kernel_rfl

/-- The row of places is there. -/
theorem Rv.ba {W : World} {b n : Nat} (h : Rv (Value.int .i64) W b n (fun t => if t < n then (t : Int) else 0)) : ∃ f, Ba W b 0 n ∧ On W b 0 n f W ∧ ∀ t : Nat, t < n → f t = t := by
  have hs : (((List.range n).map fun t : Nat => (t : Int)).toArray).size = n := by simp
  have hd : ∀ t, t < n → (((List.range n).map fun t : Nat => (t : Int)).toArray)[t]! = t := fun t ht => by
    rw [getElem!_pos _ t (by simpa using ht)]; simp
  have hh : Holds (Value.int .i64) W b 0 ((List.range n).map fun t : Nat => (t : Int)).toArray := fun j hj => by
    rw [hs] at hj
    have k : W.cell? ⟨b, j, none⟩ = some (.int .i64 (if j < n then (j : Int) else 0)) ∧ _ := h j hj
    rw [if_pos hj] at k
    rw [Nat.zero_add, hd j hj]
    exact k
  exact ⟨_, ⟨_, hs, hh⟩, ⟨0, _, hs, rfl, (putRow_self _ _ _ _ _ hh).symm⟩, hd⟩
theorem Quiet.putRow {a b : World} (h : Quiet a b) {blk : Nat} (hg : a.heap.size ≤ blk) (m off : Nat) (d : Array Int) : Quiet a (Go.Sort.putRow (Value.int .i64) (Go.Sort.ahead b m) blk off d) := by
  have B : Below a.heap.size a (Go.Sort.putRow (Value.int .i64) (Go.Sort.ahead b m) blk off d) :=
    ⟨h.2.os, h.2.tape, h.2.output, by rw [size_putRow]; exact h.2.size, fun k hk => by
      rw [← h.2.block k hk]
      simp only [Go.Sort.putRow, mapBlock, heap_ahead, Array.getElem?_modify]
      rw [if_neg (by omega)]⟩
  exact ⟨⟨B.frame _, fun x => by rw [frozen?_putRow]; exact h.1.2.1 x, B.size⟩, B⟩
/-- What the sort leaves. -/
theorem On.after {w wr w1 : World} {b b0 n : Nat} {g f : Nat → Int} (h : On wr b 0 n g w1) (hB : Ba wr b 0 n) (q : Quiet w wr) (hb : w.heap.size ≤ b) (hn : b0 ≠ b) (r : Rv (Value.int .i64) wr b0 n f) :
    Quiet w w1 ∧ Rv (Value.int .i64) w1 b0 n f ∧ Rv (Value.int .i64) w1 b n g := by
  refine ⟨?_, ?_, fun t ht => ?_⟩
  · obtain ⟨m, d, hd, hf, rfl⟩ := h
    exact q.putRow hb m 0 d
  · obtain ⟨m, d, hd, hf, rfl⟩ := h
    intro t ht
    rw [cell?_putRow_other _ _ _ _ _ _ (.inl hn), cell?_ahead, frozen?_putRow]
    exact r t ht
  · have h1 := h.cell hB t ht
    have h2 := h.froz hB t ht
    rw [Nat.zero_add] at h1 h2
    exact ⟨h1, h2⟩

theorem hit_zero {g : Nat → Int} {t : Nat} : ∀ {k : Nat}, (∀ j, j < k → g j ≠ t) → Sp.hit g k t = 0
  | 0, _ => rfl
  | k + 1, h => by
    simp only [Sp.hit]
    rw [hit_zero fun j hj => h j (by omega), if_neg (h k (by omega))]; rfl
theorem rn_ne {key : Int → Int} {g : Nat → Int} {n p q : Nat} (r : St.Rn key g 0 n) (h : p < q) (hq : q < n) : g p ≠ g q := fun e => by
  have := r.1 p q (Nat.zero_le _) h hq
  rw [e] at this
  unfold St.lt at this
  omega
theorem ud_hit {g : Nat → Int} {j p : Nat} {f : Nat → Int} (h : g j = p) (hz : Sp.hit g j p = 0) : ud p (f p + 1) (fun t => f t + Sp.hit g j t) = fun t => f t + Sp.hit g (j + 1) t := by
  funext t
  unfold ud
  simp only [Sp.hit]
  by_cases e : t = p
  · subst e
    rw [if_pos rfl, if_pos h, hz]; omega
  · rw [if_neg e, if_neg (by rw [h]; omega)]; omega

set_option maxHeartbeats 1000000 in
theorem parts_any (A : Option Addr) (n c : Nat) (ws : List Int) (T S : Int) (w : World) (h : Rd w A n ws) (hn : n ≤ 1000) (hk : Sp.Ok T S ws) :
    Calls Try.prog 32 #[.int .u64 T, .slice A n c, .int .u64 S] w fun e w' => ∃ g, St.Rn (Sp.ky T S ws) g 0 n ∧ e = .returned (.slice (some ⟨w.heap.size, 0, none⟩) n n) ∧ Quiet w w' ∧
      Rv (Value.int .i64) w' w.heap.size n (fun t => Sp.sh T S ws t + Sp.hit g (T - Sp.su (Sp.sh T S ws) n).toNat t) := by
  have hm1 := run_make_row' (P := Try.prog) 38 2 (.int .i64 0) 8 Try.underlying38 info_int rfl .i64 .i64 n (by omega) (by omega)
  have hm2 := run_make_row' (P := Try.prog) 69 45 (.int .u64 0) 8 Try.underlying69 info_u64 rfl .i64 .i64 n (by omega) (by omega)
  have hm3 := run_make_row' (P := Try.prog) 70 3 (.int .i64 0) 8 Try.underlying70 info_i rfl .i64 .i64 n (by omega) (by omega)
  have H := Lib.hid h
  have HK := Lib.hid hk
  clear h hk
  go_enter Try.func32, Try.ntmps32
  go_wp2_with fail
  go_loopw [10, 11, 12, 13, 14, 15, 16, 31] (fun l _ _ _ _ _ _ i wr => ∃ k : Nat, k ≤ n ∧ i = .int .i64 k ∧ l = .int .u64 (T - Sp.su (Sp.sh T S ws) k) ∧ Pt w wr n k T S ws) (fun _ _ _ _ _ _ _ i _ => n - (intOf i).toNat)
  case atStart => exact ⟨0, Nat.zero_le _, rfl, by simp [Sp.su], Pt.start w n T S ws⟩
  case round =>
    obtain ⟨k, hkn, rfl, rfl, hP⟩ := hrel
    have HP := Lib.hid hP
    clear hP
    by_cases hlt : k < n
    · obtain ⟨b, o, rfl, hc⟩ := (H.out.below HP.out.1.2).2 (by omega)
      have hcell := hc k hlt
      clear hc
      obtain ⟨x, hx⟩ : ∃ x, ws.getD k 0 = x := ⟨_, rfl⟩
      rw [hx] at hcell
      have hx1 := HK.out.one k
      have hS := HK.out.2.2.1
      have hS2 := HK.out.2.2.2.1
      have hT := HK.out.1
      have hT2 := HK.out.2.1
      rw [hx] at hx1
      have M := Lib.hid fun W => mul64_any T x (by omega) (by omega) hx1.1 (by omega) W
      have hh := HK.out.high k
      have hp := (HK.out.prod k).1
      rw [hx] at hh hp
      have D := Lib.hid fun W => div64_hl (T * x) S hp hh (by omega) W
      have e1 : T * x / S = Sp.sh T S ws k := by unfold Sp.sh; rw [hx]
      have e2 : T * x % S = Sp.rs T S ws k := by unfold Sp.rs; rw [hx]
      rw [e1, e2] at D
      have hs1 := HK.out.sh k
      obtain ⟨L, hL⟩ : ∃ L, T - Sp.su (Sp.sh T S ws) k = L := ⟨_, rfl⟩
      have hl1 := HK.out.left (k := k + 1) (by have := H.out.1; omega)
      obtain ⟨y, hy⟩ : ∃ y, Sp.sh T S ws k = y := ⟨_, rfl⟩
      obtain ⟨z, hz⟩ : ∃ z, Sp.rs T S ws k = z := ⟨_, rfl⟩
      have ST := Lib.hid fun m => (HP.out.drewN m).step hlt
      have c3 := HP.out.2.2.2.1
      have c1 := HP.out.2.1 k hlt
      have c2 := HP.out.2.2.1 k hlt
      have c4 := HP.out.2.2.2.2 k hlt
      have hl3 : Sp.su (Sp.sh T S ws) (k + 1) = Sp.su (Sp.sh T S ws) k + Sp.sh T S ws k := rfl
      have HL := Lib.hid hl3
      rw [hl3] at hl1
      clear hl3
      rw [hy, hz] at D ST
      rw [hy] at hs1 hl1 HL
      have hl2 : y ≤ L := by omega
      have hl4 : L ≤ T := by
        have : 0 ≤ Sp.su (Sp.sh T S ws) k := Sp.su_nonneg fun t _ => (HK.out.sh t).1
        omega
      have HL2 := Lib.hid hL
      have HX := Lib.hid hx
      rw [hL]
      clear e1 e2 hx hy hz hL hh hp
      go_wp2_with (first | (go_at_call 37; refine (M.out _).mono ?_; rintro e w1 ⟨rfl, rfl⟩) | (go_at_call 38; refine (D.out _).mono ?_; rintro e w1 ⟨rfl, m, rfl⟩))
      go_region
      all_goals go_wp2
      go_roundw
      case rel => exact ⟨k + 1, hlt, by go_num, by rw [HL.out, ← HL2.out]; congr 1; omega, ST.out _⟩
      case measure => simp [intOf]; omega
    · obtain rfl : k = n := by omega
      obtain ⟨f, hB, hO, hid⟩ := (HP.out.2.2.2.2).ba
      have C := Lib.hid (cp_any wr (w.heap.size + 1 + 1 + 1) 0 k k (w.heap.size + 1) k (w.heap.size + 1 + 1) (Sp.ky T S ws) (by omega) (by omega) HP.out.2.2.2.1 fun j hj => by
        rw [Nat.zero_add, (HP.out.2.2.1 j hj).1]
        show some (Value.int .u64 (if j < k then Sp.rs T S ws j else 0)) = _
        rw [if_pos hj]
        unfold Sp.ky
        rw [Int.toNat_natCast])
      have SO := Lib.hid (sort_any wr (w.heap.size + 1 + 1 + 1) 0 k k k hB (by omega) _ _ C.out f wr hO (Nat.le_refl _) hid)
      clear hid hO
      go_wp2_with fail
      refine SO.out.mono ?_; rintro e w1 ⟨rfl, g, hg, hr⟩
      have P1 := Lib.hid (hg.after hB HP.out.1 (by omega) (by omega) HP.out.2.1)
      have HR := Lib.hid hr
      clear SO C hB hg hr
      obtain ⟨L, hL⟩ : ∃ L : Nat, T - Sp.su (Sp.sh T S ws) k = L := ⟨(T - Sp.su (Sp.sh T S ws) k).toNat, by
        have := HK.out.left (k := k) (by have := H.out.1; omega)
        omega⟩
      have hLk : L ≤ k := by
        have h1 := HK.out.few
        rw [H.out.1, hL] at h1
        omega
      have hLt : (L : Int) ≤ 9223372036854775807 := by omega
      rw [hL]
      have HLL := Lib.hid hL
      clear hL
      have HS1 := Lib.hid fun p => HK.out.sh p
      have HB2 : Hid (∀ p : Nat, p < k → 0 < L → Sp.sh T S ws p + 1 ≤ 9223372036854775807) := Lib.hid fun p hp h0 => by
        have h1 := HLL.out
        have h2 := HK.out.2.1
        have h3 := Sp.su_ge (f := Sp.sh T S ws) (fun t => (HK.out.sh t).1) hp
        omega
      clear HP hm1 hm2 hm3 H
      go_wp2_with fail
      go_loopw [18, 74] (fun _ i wr2 => ∃ j : Nat, j ≤ L ∧ i = .int .i64 j ∧ Quiet w wr2 ∧ Rv (Value.int .i64) wr2 w.heap.size k (fun t => Sp.sh T S ws t + Sp.hit g j t) ∧ Rv (Value.int .i64) wr2 (w.heap.size + 1 + 1 + 1) k g) (fun _ i _ => L - (intOf i).toNat)
      case atStart =>
        refine ⟨0, Nat.zero_le _, rfl, P1.out.1, ?_, P1.out.2.2⟩
        intro t ht
        have h1 := P1.out.2.1 t ht
        simp only [if_pos ht] at h1
        simpa [Sp.hit] using h1
      case round =>
        obtain ⟨j, hj, rfl, q2, r2, r3⟩ := hrel
        clear P1
        by_cases hjl : j < L
        · have hjk : j < k := by omega
          obtain ⟨gv, hgv⟩ : ∃ v, g j = v := ⟨_, rfl⟩
          have hin := (HR.out.2 (g j)).1 ⟨j, Nat.zero_le _, hjk, rfl⟩
          obtain ⟨p, rfl⟩ := Int.eq_ofNat_of_zero_le (a := gv) (by omega)
          have hpk : p < k := by omega
          have c1 := (r3 j hjk).1
          have c2 := r2 p hpk
          have hz : Sp.hit g j p = 0 := hit_zero fun i hi e => rn_ne HR.out hi hjk (e.trans hgv.symm)
          have hsp := HS1.out p
          have hsb := HB2.out p hpk (by omega)
          have ST := Lib.hid (r2.set hpk (Sp.sh T S ws p + 1))
          rw [ud_hit hgv hz] at ST
          simp only [hz, Int.add_zero] at c2
          rw [hgv] at c1
          obtain ⟨y, hy⟩ : ∃ y, Sp.sh T S ws p = y := ⟨_, rfl⟩
          rw [hy] at c2 hsp hsb ST
          have Q2 := Lib.hid q2
          have R3 := Lib.hid r3
          clear hy q2 r2 r3 hin
          go_wp2
          go_roundw
          case rel => exact ⟨j + 1, hjl, by go_num, Q2.out.setCell (Nat.le_refl _) _, ST.out, R3.out.far (by omega) _⟩
          case measure => simp [intOf]; omega
        · obtain rfl : j = L := by omega
          go_wp2
          go_ret
          exact ⟨g, HR.out, rfl, q2, by rw [HLL.out, Int.toNat_natCast]; exact r2⟩
end Go.Proofs.Ytpfhkmppbochnaa
/- The contract of fixnum.Split: the parts of a total by weights, or the error that the document names. Conditions: the total and the weights are int64 numbers. -/
namespace Go.Proofs.Ytpfhkmppbochnaa
open Go.RowKit Go.Sort

/-- A weight is below 0. -/
def Ng (ws : List Int) : Prop := ∃ t, t < ws.length ∧ ws.getD t 0 < 0
theorem below_any (x : Int) (w : World) : Calls Try.prog 30 #[.int .i64 x] w fun e w' => e = .returned (.bool (decide (x < 0))) ∧ w = w' := by
  go_enter Try.func30, Try.ntmps30
  go_wp2
  go_ret
  exact ⟨rfl, rfl⟩
set_option maxHeartbeats 400000 in
theorem index_any (A : Option Addr) (n c : Nat) (ws : List Int) (w : World) (h : Rd w A n ws) (hn : n ≤ 1000) :
    Calls Try.prog 36 #[.slice A n c, .func (.func 30) #[] #[]] w fun e w' => ∃ r : Int, e = .returned (.int .i64 r) ∧ (0 ≤ r ↔ Ng ws) ∧ -1 ≤ r ∧ r ≤ 1000 ∧ w = w' := by
  have H := Lib.hid h
  clear h
  go_enter Try.func36, Try.ntmps36
  go_wp2
  go_loop [5, 8] (fun _ i => ∃ k : Nat, k ≤ n ∧ i = .int .i64 k ∧ ∀ t, t < k → 0 ≤ ws.getD t 0) (fun _ i => n - (intOf i).toNat)
  case atStart => exact ⟨0, Nat.zero_le _, rfl, fun t ht => absurd ht (Nat.not_lt_zero t)⟩
  case round =>
    obtain ⟨k, hk, rfl, hp⟩ := hrel
    have HP := Lib.hid hp
    clear hp
    by_cases hlt : k < n
    · obtain ⟨b, o, rfl, hc⟩ := H.out.2 (by omega)
      have hcell := hc k hlt
      clear hc
      obtain ⟨x, hx⟩ : ∃ x, ws.getD k 0 = x := ⟨_, rfl⟩
      rw [hx] at hcell
      have HX := Lib.hid hx
      clear hx
      by_cases hneg : x < 0
      · go_wp2_with (first | (go_at_call 30; refine (below_any _ _).mono ?_; rintro e w1 ⟨rfl, rfl⟩))
        go_ret
        exact ⟨k, rfl, ⟨fun _ => ⟨k, by rw [H.out.1]; exact hlt, by rw [HX.out]; exact hneg⟩, fun _ => by omega⟩, by omega, by omega, rfl⟩
      · go_wp2_with (first | (go_at_call 30; refine (below_any _ _).mono ?_; rintro e w1 ⟨rfl, rfl⟩))
        go_round
        case rel => exact ⟨k + 1, hlt, by go_num, fun t ht => by
          rcases Nat.lt_succ_iff_lt_or_eq.1 ht with h1 | rfl
          · exact HP.out t h1
          · rw [HX.out]; omega⟩
        case measure => simp [intOf]; omega
    · obtain rfl : k = n := by omega
      go_wp2
      go_ret
      exact ⟨-1, rfl, ⟨fun h => by omega, fun ⟨t, t1, t2⟩ => by
        have := HP.out t (by rw [← H.out.1]; exact t1)
        omega⟩, by omega, by omega, rfl⟩
theorem contains_any (A : Option Addr) (n c : Nat) (ws : List Int) (w : World) (h : Rd w A n ws) (hn : n ≤ 1000) (b : Bool) (hb : b = true ↔ Ng ws) :
    Calls Try.prog 31 #[.slice A n c, .func (.func 30) #[] #[]] w fun e w' => e = .returned (.bool b) ∧ w = w' := by
  have I := Lib.hid (index_any A n c ws w h hn)
  clear h
  go_enter Try.func31, Try.ntmps31
  go_wp2_with fail
  refine I.out.mono ?_; rintro e w1 ⟨r, rfl, hr, r1, r2, rfl⟩
  rw [← hb] at hr
  have e : decide (r ≥ 0) = b := by
    cases b
    · simpa using hr
    · simpa using hr
  go_wp2
  go_ret
  refine ⟨?_, rfl⟩
  rw [← e]
  rfl

/-- What Split tells: an error, or none. -/
def se (T : Int) (ws : List Int) (b : Bool) : Int := if 1000 < ws.length then 3 else if T < 0 then 2 else if b then 2 else if tE (sm ws) = 0 then (if T = 0 then 0 else if sm ws = 0 then 10 else 0) else 6
/-- The parts. -/
def pt (T : Int) (ws : List Int) (g : Nat → Int) : List Int := (List.range ws.length).map fun t => Sp.sh T (sm ws) ws t + Sp.hit g (T - Sp.su (Sp.sh T (sm ws) ws) ws.length).toNat t
/-- What Split returns. -/
def Parted (T : Int) (ws : List Int) (b : Bool) (g : Nat → Int) (W : World) (e : Ending) : Prop :=
  ∃ A n zs, e = .returned (.tuple #[.slice A n n, .int .i64 (se T ws b)]) ∧ Rd W A n zs ∧ (se T ws b = 0 → zs = pt T ws g) ∧ (se T ws b ≠ 0 → A = none ∧ zs = [])
theorem none_rd (W : World) : Rd W none 0 [] := ⟨rfl, fun h => absurd h (Nat.lt_irrefl 0)⟩

set_option maxHeartbeats 1000000 in
theorem split_any (A : Option Addr) (n c : Nat) (ws : List Int) (T : Int) (w : World) (h : Rd w A n ws) (hr : ∀ n, n ∈ ws → I64 n) (hT : I64 T) (hbig : n ≤ 1152921504606846975) (b : Bool) (hb : b = true ↔ Ng ws) :
    Calls Try.prog 19 #[.int .i64 T, .slice A n c] w fun e w' => ∃ g, (se T ws b = 0 → 0 < T → Sp.Ok T (sm ws) ws ∧ St.Rn (Sp.ky T (sm ws) ws) g 0 ws.length) ∧ Parted T ws b g w' e ∧ Quiet w w' := by
  have hl := h.1
  have H := Lib.hid h
  have HT := Lib.hid hT
  have S := Lib.hid (fsum_any A n c ws w h hbig hr)
  unfold I64 at hT
  clear h hr
  by_cases c1 : 1000 < n
  · have E : se T ws b = 3 := by unfold se; rw [if_pos (by omega)]
    unfold Parted
    rw [E]
    go_enter Try.func19, Try.ntmps19
    go_wp2_with fail
    go_ret2
    exact ⟨fun _ => 0, fun h => by omega, ⟨none, 0, [], rfl, none_rd _, fun h => by omega, fun _ => ⟨rfl, rfl⟩⟩, Quiet.refl _⟩
  by_cases c2 : T < 0
  · have E : se T ws b = 2 := by unfold se; rw [if_neg (by omega), if_pos c2]
    unfold Parted
    rw [E]
    go_enter Try.func19, Try.ntmps19
    go_wp2_with fail
    go_ret2
    exact ⟨fun _ => 0, fun h => by omega, ⟨none, 0, [], rfl, none_rd _, fun h => by omega, fun _ => ⟨rfl, rfl⟩⟩, Quiet.refl _⟩
  have CF := Lib.hid (contains_any A n c ws w H.out (by omega) b hb)
  cases b
  case true =>
    have E : se T ws true = 2 := by unfold se; rw [if_neg (by omega), if_neg c2, if_pos rfl]
    unfold Parted
    rw [E]
    clear hb
    go_enter Try.func19, Try.ntmps19
    go_wp2_with fail
    refine CF.out.mono ?_; rintro e w1 ⟨rfl, rfl⟩
    go_wp2_with fail
    go_ret2
    exact ⟨fun _ => 0, fun h => by omega, ⟨none, 0, [], rfl, none_rd _, fun h => by omega, fun _ => ⟨rfl, rfl⟩⟩, Quiet.refl _⟩
  case false =>
  have hpos : ∀ t, 0 ≤ ws.getD t 0 := fun t => by
    by_cases ht : t < ws.length
    · have h1 : ¬ ws.getD t 0 < 0 := fun h => by
        have := hb.2 ⟨t, ht, h⟩
        cases this
      omega
    · have : ws.getD t 0 = 0 := by simp [List.getD, Nat.le_of_not_lt ht]
      omega
  have HPos := Lib.hid hpos
  clear hb hpos
  by_cases c3 : tE (sm ws) = 0
  case neg =>
    have E6 : tE (sm ws) = 6 := by unfold tE at c3 ⊢; split at c3 <;> simp_all
    have E : se T ws false = 6 := by unfold se; rw [if_neg (by omega), if_neg c2, if_neg (by simp), if_neg c3]
    unfold Parted
    rw [E]
    rw [E6] at S c3
    go_enter Try.func19, Try.ntmps19
    go_wp2_with fail
    refine CF.out.mono ?_; rintro e w1 ⟨rfl, rfl⟩
    go_wp2_with fail
    refine S.out.mono ?_; rintro e w1 ⟨rfl, rfl⟩
    go_wp2_with fail
    go_ret2
    exact ⟨fun _ => 0, fun h => by omega, ⟨none, 0, [], rfl, none_rd _, fun h => by omega, fun _ => ⟨rfl, rfl⟩⟩, Quiet.refl _⟩
  case pos =>
  have c4 : I64 (sm ws) := by
    unfold tE at c3
    unfold I64
    split at c3
    · assumption
    · cases c3
  rw [tN_in c4, c3] at S
  obtain ⟨z, hz⟩ : ∃ z, sm ws = z := ⟨_, rfl⟩
  rw [hz] at S c4
  have C4 := Lib.hid c4
  unfold I64 at c4
  by_cases c5 : T = 0
  · subst c5
    have hm1 := run_make_row' (P := Try.prog) 38 2 (.int .i64 0) 8 Try.underlying38 info_int rfl .i64 .i64 n (by omega) (by omega)
    have E : se 0 ws false = 0 := by unfold se; rw [if_neg (by omega), if_neg c2, if_neg (by simp), if_pos c3, if_pos rfl]
    have EP : Hid (∀ g, pt 0 ws g = List.replicate n 0) := Lib.hid (fun g => by
      have h0 : ∀ t, Sp.sh 0 (sm ws) ws t = 0 := fun t => by unfold Sp.sh; rw [Int.zero_mul, Int.zero_ediv]
      have h1 : Sp.su (Sp.sh 0 (sm ws) ws) ws.length = 0 := by
        rw [Sp.su_eq (g := fun _ => 0) fun t _ => h0 t, Sp.su_const, Int.zero_mul]
      unfold pt
      rw [h1, ← hl]
      apply List.ext_getElem
      · simp
      · intro i h2 h3
        simp [h0, Sp.hit])
    have RN := Lib.hid (Rv.new (enc := Value.int .i64) w n _ rfl 2)
    unfold Parted
    rw [E]
    clear hz c3
    go_enter Try.func19, Try.ntmps19
    go_wp2_with fail
    refine CF.out.mono ?_; rintro e w1 ⟨rfl, rfl⟩
    go_wp2_with fail
    refine S.out.mono ?_; rintro e w1 ⟨rfl, rfl⟩
    go_wp2_with fail
    go_ret2
    refine ⟨fun _ => 0, fun _ h => by omega, ⟨_, n, _, rfl, ⟨?_, fun h0 => ⟨_, 0, rfl, fun j hj => ?_⟩⟩, fun _ => (EP.out _).symm, fun h => by omega⟩, (Quiet.refl _).alloc _ _⟩
    · simp
    · rw [Nat.zero_add, (RN.out j hj).1]
      simp [List.getD, hj]
  by_cases c6 : z = 0
  · subst c6
    have E : se T ws false = 10 := by unfold se; rw [if_neg (by omega), if_neg c2, if_neg (by simp), if_pos c3, if_neg c5, if_pos hz]
    unfold Parted
    rw [E]
    clear hz c3
    go_enter Try.func19, Try.ntmps19
    go_wp2_with fail
    refine CF.out.mono ?_; rintro e w1 ⟨rfl, rfl⟩
    go_wp2_with fail
    refine S.out.mono ?_; rintro e w1 ⟨rfl, rfl⟩
    go_wp2_with fail
    go_ret2
    exact ⟨fun _ => 0, fun h => by omega, ⟨none, 0, [], rfl, none_rd _, fun h => by omega, fun _ => ⟨rfl, rfl⟩⟩, Quiet.refl _⟩
  · have E : se T ws false = 0 := by unfold se; rw [if_neg (by omega), if_neg c2, if_neg (by simp), if_pos c3, if_neg c5, if_neg (by rw [hz]; exact c6)]
    have hz0 : 0 ≤ z := by
      rw [← hz, ← List.take_length (l := ws), Sp.sm_su ws ws.length (Nat.le_refl _)]
      exact Sp.su_nonneg fun t _ => HPos.out t
    have hok : Sp.Ok T z ws := ⟨by omega, by omega, by omega, by omega, HPos.out, hz⟩
    have P := Lib.hid (parts_any A n c ws T z w H.out (by omega) hok)
    have HOK := Lib.hid hok
    have HZ := Lib.hid hz
    unfold Parted pt
    rw [E, hz]
    clear hz c3 hok
    go_enter Try.func19, Try.ntmps19
    go_wp2_with fail
    refine CF.out.mono ?_; rintro e w1 ⟨rfl, rfl⟩
    go_wp2_with fail
    refine S.out.mono ?_; rintro e w1 ⟨rfl, rfl⟩
    go_wp2_with fail
    refine P.out.mono ?_; rintro e w1 ⟨g, hg, rfl, q, r⟩
    have HG := Lib.hid hg
    have HR := Lib.hid r
    have HQ := Lib.hid q
    clear hg r q
    go_wp2_with fail
    go_ret2
    refine ⟨g, fun _ _ => ⟨HOK.out, by rw [hl]; exact HG.out⟩, ⟨_, n, _, rfl, ⟨?_, fun h0 => ⟨_, 0, rfl, fun j hj => ?_⟩⟩, fun _ => rfl, fun h => by omega⟩, HQ.out⟩
    · simp [hl]
    · rw [Nat.zero_add, (HR.out j hj).1, hl]
      simp [List.getD, hj]
end Go.Proofs.Ytpfhkmppbochnaa
/- The walk of the statement FixnumScale: it returns true for every total, every list of weights and every factor, and leaves the memory that was there as it was. -/
namespace Go.Proofs.Ytpfhkmppbochnaa
open Go.RowKit Go.Sort

/-! Plain arithmetic -/
theorem pt_zero (ws : List Int) (g : Nat → Int) : pt 0 ws g = List.replicate ws.length 0 := by
  have h0 : ∀ t, Sp.sh 0 (sm ws) ws t = 0 := fun t => by unfold Sp.sh; rw [Int.zero_mul, Int.zero_ediv]
  have h1 : Sp.su (Sp.sh 0 (sm ws) ws) ws.length = 0 := by
    rw [Sp.su_eq (g := fun _ => 0) fun t _ => h0 t, Sp.su_const, Int.zero_mul]
  unfold pt
  rw [h1]
  apply List.ext_getElem
  · simp
  · intro i h2 h3
    simp [h0, Sp.hit]
theorem rn_unique {key : Int → Int} {n : Nat} {g h : Nat → Int} (r : St.Rn key g 0 n) (s : St.Rn key h 0 n) : ∀ k, k < n → g k = h k := by
  have half : ∀ {g h : Nat → Int} (k : Nat), St.Rn key g 0 n → St.Rn key h 0 n → k < n → (∀ j, j < k → g j = h j) → g k ≠ h k → St.lt key (h k) (g k) := by
    intro g h k r s hk ih hne
    have hin := (r.2 (g k)).1 ⟨k, Nat.zero_le _, hk, rfl⟩
    obtain ⟨p, _, p2, p3⟩ := (s.2 (g k)).2 hin
    rcases Nat.lt_trichotomy p k with h1 | h1 | h1
    · rw [← ih p h1] at p3
      exact absurd p3 (rn_ne r h1 hk)
    · subst h1
      exact absurd p3.symm hne
    · rw [← p3]
      exact s.1 k p (Nat.zero_le _) h1 p2
  intro k
  induction k using Nat.strongRecOn with
  | ind k ih =>
    intro hk
    refine Classical.byContradiction fun hne => ?_
    have h1 := half k r s hk (fun j hj => ih j hj (by omega)) hne
    have h2 := half k s r hk (fun j hj => (ih j hj (by omega)).symm) (fun e => hne e.symm)
    have := St.lt_trans h1 h2
    unfold St.lt at this
    omega
theorem rn_scale {key key' : Int → Int} {n : Nat} {g : Nat → Int} {c : Int} (hc : 0 < c) (h : ∀ t : Nat, key' t = key t * c) (r : St.Rn key' g 0 n) : St.Rn key g 0 n := by
  refine ⟨fun p q h1 h2 h3 => ?_, r.2⟩
  have hp := (r.2 (g p)).1 ⟨p, Nat.zero_le _, by omega, rfl⟩
  have hq := (r.2 (g q)).1 ⟨q, Nat.zero_le _, h3, rfl⟩
  have hl := r.1 p q h1 h2 h3
  obtain ⟨x, hx⟩ := Int.eq_ofNat_of_zero_le (a := g p) (by omega)
  obtain ⟨y, hy⟩ := Int.eq_ofNat_of_zero_le (a := g q) (by omega)
  rw [hx, hy] at hl ⊢
  unfold St.lt at hl ⊢
  rw [h x, h y] at hl
  rcases hl with hl | ⟨hl, k⟩
  · exact .inl (Int.lt_of_mul_lt_mul_right hl (by omega))
  · exact .inr ⟨Int.eq_of_mul_eq_mul_right (by omega) hl, k⟩
theorem hit_same {g h : Nat → Int} {t : Nat} : ∀ {k : Nat}, (∀ j, j < k → g j = h j) → Sp.hit g k t = Sp.hit h k t
  | 0, _ => rfl
  | k + 1, e => by
    simp only [Sp.hit]
    rw [hit_same fun j hj => e j (by omega), e k (by omega)]
theorem getD_mul (ws : List Int) (c : Int) (t : Nat) : (ws.map (· * c)).getD t 0 = ws.getD t 0 * c := by
  simp only [List.getD, List.getElem?_map]
  cases ws[t]? with
  | none => simp
  | some x => simp
theorem sm_mul (c : Int) : ∀ ws : List Int, sm (ws.map (· * c)) = sm ws * c
  | [] => by simp [sm]
  | x :: l => by simp only [List.map_cons, sm]; rw [sm_mul c l, Int.add_mul]
theorem sm_some {m : Int} : ∀ ws : List Int, (∀ t, t < ws.length → 0 ≤ ws.getD t 0 ∧ ws.getD t 0 ≤ m) → 0 ≤ sm ws ∧ sm ws ≤ m * ws.length := by
  intro ws h
  have e := Sp.sm_su ws ws.length (Nat.le_refl _)
  rw [List.take_length] at e
  rw [e]
  refine ⟨Sp.su_nonneg fun t ht => (h t ht).1, ?_⟩
  rw [← Sp.su_const]
  exact Sp.su_le fun t ht => (h t ht).2
/-- The weights as the statement takes them. -/
def Sc (ws : List Int) (c : Int) : Prop := ws.length ≤ 200 ∧ 1 ≤ c ∧ c ≤ 1000 ∧ ∀ t, t < ws.length → 0 ≤ ws.getD t 0 ∧ ws.getD t 0 ≤ 1099511627776
theorem sc_sums {ws : List Int} {c : Int} (h : Sc ws c) : 0 ≤ sm ws ∧ sm ws ≤ 219902325555200 ∧ 0 ≤ sm ws * c ∧ sm ws * c ≤ 219902325555200000 := by
  have h1 := sm_some ws h.2.2.2
  have h2 : sm ws ≤ 219902325555200 := by have := h.1; omega
  exact ⟨h1.1, h2, Int.mul_nonneg h1.1 (by have := h.2.1; omega), by
    have := Int.mul_le_mul h2 h.2.2.1 (by have := h.2.1; omega) (by decide : (0 : Int) ≤ 219902325555200)
    omega⟩
theorem sc_se {ws : List Int} {c : Int} (h : Sc ws c) (T : Int) : se T (ws.map (· * c)) false = se T ws false := by
  have h1 := sc_sums h
  have e1 : tE (sm ws) = 0 := tE_in (by unfold I64; omega)
  have e2 : tE (sm ws * c) = 0 := tE_in (by unfold I64; omega)
  unfold se
  rw [sm_mul, List.length_map, e1, e2]
  by_cases hz : sm ws = 0
  · rw [hz, Int.zero_mul]
  · have : sm ws * c ≠ 0 := Int.mul_ne_zero hz (by have := h.2.1; omega)
    rw [if_neg this, if_neg hz]
theorem sc_pt {ws : List Int} {c : Int} (h : Sc ws c) {T : Int} (hT : 0 ≤ T) {g g' : Nat → Int}
    (r : 0 < T → Sp.Ok T (sm ws) ws ∧ St.Rn (Sp.ky T (sm ws) ws) g 0 ws.length)
    (r' : 0 < T → Sp.Ok T (sm (ws.map (· * c))) (ws.map (· * c)) ∧ St.Rn (Sp.ky T (sm (ws.map (· * c))) (ws.map (· * c))) g' 0 (ws.map (· * c)).length) :
    pt T (ws.map (· * c)) g' = pt T ws g := by
  rcases Int.lt_or_eq_of_le hT with hT | hT
  · obtain ⟨o, r⟩ := r hT
    obtain ⟨_, r'⟩ := r' hT
    rw [sm_mul] at r'
    have hc : 0 < c := by have := h.2.1; omega
    have es : ∀ t, Sp.sh T (sm ws * c) (ws.map (· * c)) t = Sp.sh T (sm ws) ws t := fun t => by
      unfold Sp.sh
      rw [getD_mul, ← Int.mul_assoc, Int.mul_ediv_mul_of_pos_left _ _ hc]
    have er : ∀ t : Nat, Sp.ky T (sm ws * c) (ws.map (· * c)) t = Sp.ky T (sm ws) ws t * c := fun t => by
      unfold Sp.ky Sp.rs
      rw [Int.toNat_natCast, getD_mul, ← Int.mul_assoc, Int.mul_comm _ c, Int.mul_comm (sm ws) c, Int.mul_emod_mul_of_pos _ _ hc, Int.mul_comm c]
    have u := rn_unique r (by rw [List.length_map] at r'; exact rn_scale hc er r')
    have hfew := o.few
    unfold pt
    rw [List.length_map, sm_mul, Sp.su_eq (g := Sp.sh T (sm ws) ws) fun t _ => es t]
    refine List.map_congr_left fun t _ => ?_
    rw [es, hit_same fun j hj => (u j (by omega)).symm]
  · subst hT
    rw [pt_zero, pt_zero, List.length_map]
end Go.Proofs.Ytpfhkmppbochnaa
/- Plain arithmetic on the parts: together they are the total; a greater weight has no smaller part; a weight of 0 has none; none is more than its weight, if the total is not more than all. -/
namespace Go.Proofs.Ytpfhkmppbochnaa
open Go.RowKit Go.Sort

namespace Sp
theorem hit_nonneg (g : Nat → Int) (t : Nat) : ∀ k, 0 ≤ hit g k t
  | 0 => Int.le_refl _
  | k + 1 => by
    have := hit_nonneg g t k
    simp only [hit]
    split <;> omega
theorem hit_one {g : Nat → Int} {k t j : Nat} (hj : j < k) (h : g j = t) : 1 ≤ hit g k t := by
  induction k with
  | zero => omega
  | succ k ih =>
    simp only [hit]
    by_cases e : j = k
    · subst e
      rw [if_pos h]
      have := hit_nonneg g t j
      omega
    · have := ih (by omega)
      split <;> omega
theorem su_point (p : Nat) : ∀ n, su (fun t => if (p : Int) = t then 1 else 0) n = if p < n then 1 else 0
  | 0 => by simp [su]
  | n + 1 => by
    simp only [su]
    rw [su_point p n]
    by_cases h1 : p < n
    · rw [if_pos h1, if_neg (by omega), if_pos (by omega)]; rfl
    · rw [if_neg h1]
      by_cases h2 : p = n
      · subst h2
        rw [if_pos rfl, if_pos (by omega)]; rfl
      · rw [if_neg (by omega), if_neg (by omega)]; rfl
/-- As many hits as places. -/
theorem su_hit {g : Nat → Int} {n : Nat} : ∀ {k : Nat}, (∀ j, j < k → 0 ≤ g j ∧ g j < n) → su (hit g k) n = k
  | 0, _ => by
    show su (fun t => hit g 0 t) n = _
    simp only [hit]
    rw [su_const]; simp
  | k + 1, h => by
    have h1 := h k (by omega)
    obtain ⟨p, hp⟩ := Int.eq_ofNat_of_zero_le h1.1
    have e : (hit g (k + 1)) = fun t => hit g k t + if (p : Int) = t then 1 else 0 := by
      funext t
      simp only [hit, hp]
    rw [e, su_add, su_hit fun j hj => h j (by omega), su_point, if_pos (by omega)]
    omega
end Sp

/-- The part of place t. -/
def pv (T : Int) (ws : List Int) (g : Nat → Int) (t : Nat) : Int := Sp.sh T (sm ws) ws t + Sp.hit g (T - Sp.su (Sp.sh T (sm ws) ws) ws.length).toNat t
theorem pt_getD {T : Int} {ws : List Int} {g : Nat → Int} {t : Nat} (h : t < ws.length) : (pt T ws g).getD t 0 = pv T ws g t := by
  unfold pt pv
  simp [List.getD, h]
theorem pt_len (T : Int) (ws : List Int) (g : Nat → Int) : (pt T ws g).length = ws.length := by unfold pt; rw [List.length_map, List.length_range]

/-- A total, weights, and the places in their order. -/
def Al2 (T : Int) (ws : List Int) (g : Nat → Int) : Prop := Sp.Ok T (sm ws) ws ∧ St.Rn (Sp.ky T (sm ws) ws) g 0 ws.length
variable {T : Int} {ws : List Int} {g : Nat → Int}
theorem Al2.place (h : Al2 T ws g) {t : Nat} (ht : t < ws.length) : ∃ p, p < ws.length ∧ g p = t := by
  obtain ⟨p, _, p2, p3⟩ := (h.2.2 t).2 ⟨by omega, by omega⟩
  exact ⟨p, p2, p3⟩
theorem Al2.left (h : Al2 T ws g) : ((T - Sp.su (Sp.sh T (sm ws) ws) ws.length).toNat : Int) = T - Sp.su (Sp.sh T (sm ws) ws) ws.length := by
  have := h.1.left (Nat.le_refl _)
  omega
theorem Al2.hit (h : Al2 T ws g) {k p t : Nat} (hk : k ≤ ws.length) (hp : p < ws.length) (ht : g p = t) : Sp.hit g k t = if p < k then 1 else 0 := by
  induction k with
  | zero => simp [Sp.hit]
  | succ k ih =>
    simp only [Sp.hit]
    rw [ih (by omega)]
    by_cases h1 : p < k
    · have n1 : ¬ g k = (t : Int) := fun e => rn_ne h.2 h1 (by omega) (ht.trans e.symm)
      rw [if_pos h1, if_neg n1, if_pos (by omega)]; rfl
    · rw [if_neg h1]
      by_cases h2 : p = k
      · subst h2
        rw [if_pos ht, if_pos (by omega)]; rfl
      · rw [if_neg fun e => rn_ne h.2 (show k < p by omega) hp (e.trans ht.symm), if_neg (by omega)]; rfl
theorem Al2.pv (h : Al2 T ws g) {p t : Nat} (hp : p < ws.length) (ht : g p = t) : pv T ws g t = Sp.sh T (sm ws) ws t + if (p : Int) < T - Sp.su (Sp.sh T (sm ws) ws) ws.length then 1 else 0 := by
  have hf := h.1.few
  have hl := h.left
  unfold Go.Proofs.Ytpfhkmppbochnaa.pv
  rw [h.hit (by omega) hp ht]
  congr 1
  by_cases c : (p : Int) < T - Sp.su (Sp.sh T (sm ws) ws) ws.length
  · rw [if_pos c, if_pos (by omega)]
  · rw [if_neg c, if_neg (by omega)]
/-- Together they are the total. -/
theorem Al2.sum (h : Al2 T ws g) : sm (pt T ws g) = T := by
  have hl := h.left
  have hf := h.1.few
  have e := Sp.sm_su (pt T ws g) ws.length (by rw [pt_len]; exact Nat.le_refl _)
  rw [List.take_of_length_le (by rw [pt_len]; exact Nat.le_refl _)] at e
  rw [e, Sp.su_eq (g := fun t => Sp.sh T (sm ws) ws t + Sp.hit g (T - Sp.su (Sp.sh T (sm ws) ws) ws.length).toNat t) fun t ht => pt_getD ht, Sp.su_add, Sp.su_hit]
  · omega
  · intro j hj
    have := (h.2.2 (g j)).1 ⟨j, Nat.zero_le _, by omega, rfl⟩
    omega
/-- Who gets one more has a rest. -/
theorem Al2.rest (h : Al2 T ws g) {p t : Nat} (hp : p < ws.length) (ht : g p = t) (hl : (p : Int) < T - Sp.su (Sp.sh T (sm ws) ws) ws.length) : 0 < Sp.rs T (sm ws) ws t := by
  refine Classical.byContradiction fun hn => ?_
  have h0 := h.1.rs t
  have hz : Sp.rs T (sm ws) ws t = 0 := by omega
  have hS := h.1.2.2.1
  have hr := h.1.rest
  have hle : Sp.su (Sp.rs T (sm ws) ws) ws.length ≤ Sp.su (fun s => (sm ws - 1) * Sp.hit g p s) ws.length := Sp.su_le fun s hs => by
    have h1 := h.1.rs s
    by_cases c : Sp.rs T (sm ws) ws s = 0
    · rw [c]
      exact Int.mul_nonneg (by omega) (Sp.hit_nonneg g s p)
    · obtain ⟨q, q1, q2⟩ := h.place hs
      have hqp : q < p := by
        refine Classical.byContradiction fun hqp => ?_
        rcases Nat.eq_or_lt_of_le (show p ≤ q by omega) with rfl | hlt
        · have : (s : Int) = t := by rw [← q2, ht]
          have : s = t := by omega
          subst this
          exact c hz
        · have := h.2.1 p q (Nat.zero_le _) hlt q1
          rw [ht, q2] at this
          unfold St.lt Sp.ky at this
          simp only [Int.toNat_natCast] at this
          omega
      have h2 := Sp.hit_one hqp q2
      have h3 : (sm ws - 1) * 1 ≤ (sm ws - 1) * Sp.hit g p s := Int.mul_le_mul_of_nonneg_left h2 (by omega)
      omega
  rw [Sp.su_mul, Sp.su_hit fun j hj => by
    have := (h.2.2 (g j)).1 ⟨j, Nat.zero_le _, by omega, rfl⟩
    omega] at hle
  have h4 : (sm ws - 1) * (p : Int) ≤ sm ws * (p : Int) := Int.mul_le_mul_of_nonneg_right (by omega) (by omega)
  have h5 : sm ws * ((p : Int) + 1) ≤ sm ws * (T - Sp.su (Sp.sh T (sm ws) ws) ws.length) := Int.mul_le_mul_of_nonneg_left (by omega) (by omega)
  rw [Int.mul_add] at h5
  omega
theorem Al2.nonneg (h : Al2 T ws g) {t : Nat} (ht : t < ws.length) : 0 ≤ Go.Proofs.Ytpfhkmppbochnaa.pv T ws g t := by
  obtain ⟨p, p1, p2⟩ := h.place ht
  rw [h.pv p1 p2]
  have := (h.1.sh t).1
  split <;> omega
theorem Al2.none (h : Al2 T ws g) {t : Nat} (ht : t < ws.length) (hw : ws.getD t 0 = 0) : Go.Proofs.Ytpfhkmppbochnaa.pv T ws g t = 0 := by
  obtain ⟨p, p1, p2⟩ := h.place ht
  rw [h.pv p1 p2]
  have e1 : Sp.sh T (sm ws) ws t = 0 := by unfold Sp.sh; rw [hw, Int.mul_zero, Int.zero_ediv]
  have e2 : Sp.rs T (sm ws) ws t = 0 := by unfold Sp.rs; rw [hw, Int.mul_zero, Int.zero_emod]
  rw [e1, if_neg fun c => by have := h.rest p1 p2 c; omega]; rfl
theorem Al2.most (h : Al2 T ws g) {t : Nat} (ht : t < ws.length) (hT : T ≤ sm ws) : Go.Proofs.Ytpfhkmppbochnaa.pv T ws g t ≤ ws.getD t 0 := by
  obtain ⟨p, p1, p2⟩ := h.place ht
  rw [h.pv p1 p2]
  have hS := h.1.2.2.1
  have h1 := Sp.sh_rs (T := T) (S := sm ws) (ws := ws) t
  have h2 : T * ws.getD t 0 ≤ sm ws * ws.getD t 0 := Int.mul_le_mul_of_nonneg_right hT (h.1.one t).1
  have h3 := h.1.rs t
  split
  · rename_i c
    have h4 := h.rest p1 p2 c
    have h5 : sm ws * Sp.sh T (sm ws) ws t < sm ws * ws.getD t 0 := by omega
    have := Int.lt_of_mul_lt_mul_left h5 (by omega)
    omega
  · have h5 : sm ws * Sp.sh T (sm ws) ws t ≤ sm ws * ws.getD t 0 := by omega
    have := Int.le_of_mul_le_mul_left h5 hS
    omega
/-- Of two weights. -/
theorem Al2.mono (h : Al2 T ws g) {s t : Nat} (hs : s < ws.length) (ht : t < ws.length) (hw : ws.getD s 0 < ws.getD t 0) : Go.Proofs.Ytpfhkmppbochnaa.pv T ws g s ≤ Go.Proofs.Ytpfhkmppbochnaa.pv T ws g t := by
  obtain ⟨p, p1, p2⟩ := h.place hs
  obtain ⟨q, q1, q2⟩ := h.place ht
  rw [h.pv p1 p2, h.pv q1 q2]
  have hS := h.1.2.2.1
  have a1 := Sp.sh_rs (T := T) (S := sm ws) (ws := ws) s
  have a2 := Sp.sh_rs (T := T) (S := sm ws) (ws := ws) t
  have b1 := h.1.rs s
  have b2 := h.1.rs t
  have hm : T * ws.getD s 0 < T * ws.getD t 0 := Int.mul_lt_mul_of_pos_left hw h.1.1
  have hle : Sp.sh T (sm ws) ws s ≤ Sp.sh T (sm ws) ws t := Int.ediv_le_ediv hS (by omega)
  rcases Int.lt_or_eq_of_le hle with hl | he
  · split <;> split <;> omega
  · have hk : Sp.rs T (sm ws) ws s < Sp.rs T (sm ws) ws t := by rw [he] at a1; omega
    have hqp : q < p := by
      refine Classical.byContradiction fun hn => ?_
      rcases Nat.eq_or_lt_of_le (show p ≤ q by omega) with rfl | hlt
      · have : (s : Int) = t := by rw [← p2, ← q2]
        have : s = t := by omega
        subst this
        omega
      · have := h.2.1 p q (Nat.zero_le _) hlt q1
        rw [p2, q2] at this
        unfold St.lt Sp.ky at this
        simp only [Int.toNat_natCast] at this
        omega
    split <;> split <;> omega
theorem Al2.same (h : Al2 T ws g) {s t : Nat} (hs : s < t) (ht : t < ws.length) (hw : ws.getD s 0 = ws.getD t 0) : Go.Proofs.Ytpfhkmppbochnaa.pv T ws g t ≤ Go.Proofs.Ytpfhkmppbochnaa.pv T ws g s ∧ Go.Proofs.Ytpfhkmppbochnaa.pv T ws g s ≤ Go.Proofs.Ytpfhkmppbochnaa.pv T ws g t + 1 := by
  obtain ⟨p, p1, p2⟩ := h.place (show s < ws.length by omega)
  obtain ⟨q, q1, q2⟩ := h.place ht
  rw [h.pv p1 p2, h.pv q1 q2]
  have e1 : Sp.sh T (sm ws) ws s = Sp.sh T (sm ws) ws t := by unfold Sp.sh; rw [hw]
  have e2 : Sp.rs T (sm ws) ws s = Sp.rs T (sm ws) ws t := by unfold Sp.rs; rw [hw]
  have hpq : p < q := by
    refine Classical.byContradiction fun hn => ?_
    rcases Nat.eq_or_lt_of_le (show q ≤ p by omega) with rfl | hlt
    · have : (s : Int) = t := by rw [← p2, ← q2]
      omega
    · have := h.2.1 q p (Nat.zero_le _) hlt p1
      rw [p2, q2] at this
      unfold St.lt Sp.ky at this
      simp only [Int.toNat_natCast] at this
      omega
  rw [e1]
  split <;> split <;> omega
/-- All fit. -/
theorem Al2.fits (h : Al2 T ws g) {t : Nat} (ht : t < ws.length) : Go.Proofs.Ytpfhkmppbochnaa.pv T ws g t ≤ T := by
  have e := Sp.sm_su (pt T ws g) ws.length (by rw [pt_len]; exact Nat.le_refl _)
  rw [List.take_of_length_le (by rw [pt_len]; exact Nat.le_refl _), h.sum] at e
  have h1 : ∀ s, 0 ≤ (pt T ws g).getD s 0 := fun s => by
    by_cases c : s < ws.length
    · rw [pt_getD c]; exact h.nonneg c
    · have : (pt T ws g).getD s 0 = 0 := by simp [List.getD, pt_len, Nat.le_of_not_lt c]
      omega
  have := Sp.su_ge h1 ht
  rw [pt_getD ht] at this
  omega
end Go.Proofs.Ytpfhkmppbochnaa
