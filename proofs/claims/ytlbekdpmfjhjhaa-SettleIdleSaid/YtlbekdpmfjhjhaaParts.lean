/- The contract of fixnum's parts: the shares of a total by weights, rounded down, and one more to those of the greatest rests. Conditions: a total and weights that are divided (the sum of the weights is greater than 0 and fits). -/
import Derived.Test.YtlbekdpmfjhjhaaCmp
import Derived.Test.YtlbekdpmfjhjhaaSplitMath
import Derived.Test.YtlbekdpmfjhjhaaAllB
import Derived.Deep.OwnRows
namespace Go.Proofs.Ytlbekdpmfjhjhaa
open Go.RowKit Go.Sort

/-- A row of the call's own: n cells of block b hold f. -/
def Rv (enc : Int → Value) (W : World) (b n : Nat) (f : Nat → Int) : Prop := ∀ t, t < n → W.cell? ⟨b, t, none⟩ = some (enc (f t)) ∧ W.frozen? ⟨b, t, none⟩ = false
def ud (i : Nat) (x : Int) (f : Nat → Int) : Nat → Int := fun t => if t = i then x else f t
theorem Rv.set {enc : Int → Value} {W : World} {b n : Nat} {f : Nat → Int} (h : Rv enc W b n f) {i : Nat} (hi : i < n) (x : Int) : Rv enc (W.setCell ⟨b, i, none⟩ (enc x)) b n (ud i x f) := fun t ht => by
  refine ⟨?_, by rw [World.frozen?_setCell]; exact (h t ht).2⟩
  unfold ud
  by_cases e : t = i
  · subst e
    rw [if_pos rfl]
    exact World.cell?_setCell_same _ _ _ (h t ht).1
  · rw [if_neg e, World.cell?_setCell_other _ _ _ _ (by intro k; injection k; omega)]
    exact (h t ht).1
theorem Rv.far {enc : Int → Value} {W : World} {b n : Nat} {f : Nat → Int} (h : Rv enc W b n f) {b' i : Nat} (hb : b' ≠ b) (v : Value) : Rv enc (W.setCell ⟨b', i, none⟩ v) b n f := fun t ht =>
  ⟨by rw [World.cell?_setCell_far _ _ _ _ hb]; exact (h t ht).1, by rw [World.frozen?_setCell]; exact (h t ht).2⟩
theorem Rv.alloc {enc : Int → Value} {W : World} {b n : Nat} {f : Nat → Int} (h : Rv enc W b n f) (c : Array Value) (t : TypeId) : Rv enc (W.alloc (.cells c t)) b n f := fun i hi =>
  ⟨by rw [World.cell?_alloc_lt W _ _ (by exact World.block_lt_of_cell? W _ (h i hi).1)]; exact (h i hi).1, by rw [frozen?_alloc_cells]; exact (h i hi).2⟩
theorem Rv.drewN {enc : Int → Value} {W : World} {b n : Nat} {f : Nat → Int} (h : Rv enc W b n f) (m : Nat) : Rv enc (W.drewN m) b n f := h
theorem Rv.new {enc : Int → Value} (W : World) (n : Nat) (z : Value) (hz : enc 0 = z) (t : TypeId) : Rv enc (W.alloc (.cells (madeCells #[z] n) t)) W.heap.size n fun _ => 0 := fun i hi => by
  refine ⟨?_, World.frozen?_alloc_new _ _ _ _⟩
  rw [World.cell?_alloc_new, hz, ← Array.getElem?_toList, toList_madeCells_one, List.getElem?_replicate, if_pos hi]
/-- The rows in the making: k places are done. -/
def Pt (w W : World) (n k : Nat) (T S : Int) (ws : List Int) : Prop := Quiet w W ∧ Rv (Value.int .i64) W w.heap.size n (fun t => if t < k then Sp.sh T S ws t else 0) ∧
  Rv (Value.int .u64) W (w.heap.size + 1) n (fun t => if t < k then Sp.rs T S ws t else 0) ∧ W.cell? ⟨w.heap.size + 1 + 1, 0, none⟩ = some (.slice (some ⟨w.heap.size + 1, 0, none⟩) n n) ∧
  Rv (Value.int .i64) W (w.heap.size + 1 + 1 + 1) n (fun t => if t < k then (t : Int) else 0)
theorem ud_step {k : Nat} {f : Nat → Int} {x : Int} (hx : x = f k) : ud k x (fun t => if t < k then f t else 0) = fun t => if t < k + 1 then f t else 0 := by
  funext t
  unfold ud
  by_cases h : t = k
  · subst h
    rw [if_pos rfl, if_pos (by omega), hx]
  · rw [if_neg h]
    show (if t < k then f t else 0) = _
    by_cases h2 : t < k
    · rw [if_pos h2, if_pos (by omega)]
    · rw [if_neg h2, if_neg (by omega)]
theorem Pt.start (w : World) (n : Nat) (T S : Int) (ws : List Int) : Pt w ((((w.alloc (.cells (madeCells #[.int .i64 0] n) 2)).alloc (.cells (madeCells #[.int .u64 0] n) 44)).alloc (.cells #[.slice (some ⟨w.heap.size + 1, 0, none⟩) n n] 70)).alloc (.cells (madeCells #[.int .i64 0] n) 3)) n 0 T S ws := by
  refine ⟨((((Quiet.refl w).alloc _ _).alloc _ _).alloc _ _).alloc _ _, ?_, ?_, ?_, ?_⟩
  · simp only [Nat.not_lt_zero, if_false]
    exact (((Rv.new w n _ rfl _).alloc _ _).alloc _ _).alloc _ _
  · simp only [Nat.not_lt_zero, if_false]
    have := Rv.new (enc := Value.int .u64) (w.alloc (.cells (madeCells #[.int .i64 0] n) 2)) n _ rfl 44
    rw [show (w.alloc (.cells (madeCells #[.int .i64 0] n) 2)).heap.size = w.heap.size + 1 by simp] at this
    exact (this.alloc _ _).alloc _ _
  · rw [World.cell?_alloc_lt _ _ _ (by simp)]
    rw [show w.heap.size + 1 + 1 = ((w.alloc (.cells (madeCells #[.int .i64 0] n) 2)).alloc (.cells (madeCells #[.int .u64 0] n) 44)).heap.size by simp, World.cell?_alloc_new]
    rfl
  · simp only [Nat.not_lt_zero, if_false]
    have := Rv.new (enc := Value.int .i64) (((w.alloc (.cells (madeCells #[.int .i64 0] n) 2)).alloc (.cells (madeCells #[.int .u64 0] n) 44)).alloc (.cells #[.slice (some ⟨w.heap.size + 1, 0, none⟩) n n] 70)) n _ rfl 3
    rw [show (((w.alloc (.cells (madeCells #[.int .i64 0] n) 2)).alloc (.cells (madeCells #[.int .u64 0] n) 44)).alloc (.cells #[.slice (some ⟨w.heap.size + 1, 0, none⟩) n n] 70)).heap.size = w.heap.size + 1 + 1 + 1 by simp] at this
    exact this
theorem Pt.drewN {w W : World} {n k : Nat} {T S : Int} {ws : List Int} (h : Pt w W n k T S ws) (m : Nat) : Pt w (W.drewN m) n k T S ws := ⟨h.1.drewN m, h.2.1, h.2.2.1, h.2.2.2.1, h.2.2.2.2⟩
theorem Pt.step {w W : World} {n k : Nat} {T S : Int} {ws : List Int} (h : Pt w W n k T S ws) (hk : k < n) :
    Pt w (((W.setCell ⟨w.heap.size, k, none⟩ (.int .i64 (Sp.sh T S ws k))).setCell ⟨w.heap.size + 1, k, none⟩ (.int .u64 (Sp.rs T S ws k))).setCell ⟨w.heap.size + 1 + 1 + 1, k, none⟩ (.int .i64 k)) n (k + 1) T S ws := by
  obtain ⟨q, r1, r2, r3, r4⟩ := h
  refine ⟨((q.setCell (Nat.le_refl _) _).setCell (by simp) _).setCell (by simp only []; omega) _, ?_, ?_, ?_, ?_⟩
  · rw [← ud_step rfl]
    exact ((r1.set hk _).far (by omega) _).far (by omega) _
  · rw [← ud_step rfl]
    exact ((r2.far (by omega) _).set hk _).far (by omega) _
  · rw [World.cell?_setCell_far _ _ _ _ (by simp), World.cell?_setCell_far _ _ _ _ (by simp), World.cell?_setCell_far _ _ _ _ (by simp; omega)]
    exact r3
  · rw [← ud_step (f := fun t => (t : Int)) rfl]
    exact ((r4.far (by omega) _).far (by omega) _).set hk _

theorem info_u64 : (Try.prog.info? 44).map (fun i => (i.zero, i.size, i.bytes)) = some (some (.int .u64 0), 1, 8) := by kernel_rfl
theorem info_i : (Try.prog.info? 3).map (fun i => (i.zero, i.size, i.bytes)) = some (some (.int .i64 0), 1, 8) := by kernel_rfl

/-- The row of places is there. -/
theorem Rv.ba {W : World} {b n : Nat} (h : Rv (Value.int .i64) W b n (fun t => if t < n then (t : Int) else 0)) : ∃ f, Ba W b 0 n ∧ On W b 0 n f W ∧ ∀ t : Nat, t < n → f t = t := by
  have hs : (((List.range n).map fun t : Nat => (t : Int)).toArray).size = n := by simp
  have hd : ∀ t, t < n → (((List.range n).map fun t : Nat => (t : Int)).toArray)[t]! = t := fun t ht => by
    rw [getElem!_pos _ t (by simpa using ht)]; simp
  have hh : Holds (Value.int .i64) W b 0 ((List.range n).map fun t : Nat => (t : Int)).toArray := fun j hj => by
    rw [hs] at hj
    have k : W.cell? ⟨b, j, none⟩ = some (.int .i64 (if j < n then (j : Int) else 0)) ∧ _ := h j hj
    rw [if_pos hj] at k
    rw [Nat.zero_add, hd j hj]
    exact k
  exact ⟨_, ⟨_, hs, hh⟩, ⟨0, _, hs, rfl, (putRow_self _ _ _ _ _ hh).symm⟩, hd⟩
theorem Quiet.putRow {a b : World} (h : Quiet a b) {blk : Nat} (hg : a.heap.size ≤ blk) (m off : Nat) (d : Array Int) : Quiet a (Go.Sort.putRow (Value.int .i64) (Go.Sort.ahead b m) blk off d) := by
  have B : Below a.heap.size a (Go.Sort.putRow (Value.int .i64) (Go.Sort.ahead b m) blk off d) :=
    ⟨h.2.os, h.2.tape, h.2.output, by rw [size_putRow]; exact h.2.size, fun k hk => by
      rw [← h.2.block k hk]
      simp only [Go.Sort.putRow, mapBlock, heap_ahead, Array.getElem?_modify]
      rw [if_neg (by omega)]⟩
  exact ⟨⟨B.frame _, fun x => by rw [frozen?_putRow]; exact h.1.2.1 x, B.size⟩, B⟩
/-- What the sort leaves. -/
theorem On.after {w wr w1 : World} {b b0 n : Nat} {g f : Nat → Int} (h : On wr b 0 n g w1) (hB : Ba wr b 0 n) (q : Quiet w wr) (hb : w.heap.size ≤ b) (hn : b0 ≠ b) (r : Rv (Value.int .i64) wr b0 n f) :
    Quiet w w1 ∧ Rv (Value.int .i64) w1 b0 n f ∧ Rv (Value.int .i64) w1 b n g := by
  refine ⟨?_, ?_, fun t ht => ?_⟩
  · obtain ⟨m, d, hd, hf, rfl⟩ := h
    exact q.putRow hb m 0 d
  · obtain ⟨m, d, hd, hf, rfl⟩ := h
    intro t ht
    rw [cell?_putRow_other _ _ _ _ _ _ (.inl hn), cell?_ahead, frozen?_putRow]
    exact r t ht
  · have h1 := h.cell hB t ht
    have h2 := h.froz hB t ht
    rw [Nat.zero_add] at h1 h2
    exact ⟨h1, h2⟩

theorem hit_zero {g : Nat → Int} {t : Nat} : ∀ {k : Nat}, (∀ j, j < k → g j ≠ t) → Sp.hit g k t = 0
  | 0, _ => rfl
  | k + 1, h => by
    simp only [Sp.hit]
    rw [hit_zero fun j hj => h j (by omega), if_neg (h k (by omega))]; rfl
theorem rn_ne {key : Int → Int} {g : Nat → Int} {n p q : Nat} (r : St.Rn key g 0 n) (h : p < q) (hq : q < n) : g p ≠ g q := fun e => by
  have := r.1 p q (Nat.zero_le _) h hq
  rw [e] at this
  unfold St.lt at this
  omega
theorem ud_hit {g : Nat → Int} {j p : Nat} {f : Nat → Int} (h : g j = p) (hz : Sp.hit g j p = 0) : ud p (f p + 1) (fun t => f t + Sp.hit g j t) = fun t => f t + Sp.hit g (j + 1) t := by
  funext t
  unfold ud
  simp only [Sp.hit]
  by_cases e : t = p
  · subst e
    rw [if_pos rfl, if_pos h, hz]; omega
  · rw [if_neg e, if_neg (by rw [h]; omega)]; omega

set_option maxHeartbeats 1000000 in
theorem parts_any (A : Option Addr) (n c : Nat) (ws : List Int) (T S : Int) (w : World) (h : Rd w A n ws) (hn : n ≤ 1000) (hk : Sp.Ok T S ws) :
    Calls Try.prog 27 #[.int .u64 T, .slice A n c, .int .u64 S] w fun e w' => ∃ g, St.Rn (Sp.ky T S ws) g 0 n ∧ e = .returned (.slice (some ⟨w.heap.size, 0, none⟩) n n) ∧ Quiet w w' ∧
      Rv (Value.int .i64) w' w.heap.size n (fun t => Sp.sh T S ws t + Sp.hit g (T - Sp.su (Sp.sh T S ws) n).toNat t) := by
  have hm1 := run_make_row' (P := Try.prog) 38 2 (.int .i64 0) 8 Try.underlying38 info_int rfl .i64 .i64 n (by omega) (by omega)
  have hm2 := run_make_row' (P := Try.prog) 70 44 (.int .u64 0) 8 Try.underlying70 info_u64 rfl .i64 .i64 n (by omega) (by omega)
  have hm3 := run_make_row' (P := Try.prog) 71 3 (.int .i64 0) 8 Try.underlying71 info_i rfl .i64 .i64 n (by omega) (by omega)
  have H := Lib.hid h
  have HK := Lib.hid hk
  clear h hk
  go_enter Try.func27, Try.ntmps27
  go_wp2_with fail
  go_loopw [10, 11, 12, 13, 14, 15, 16, 31] (fun l _ _ _ _ _ _ i wr => ∃ k : Nat, k ≤ n ∧ i = .int .i64 k ∧ l = .int .u64 (T - Sp.su (Sp.sh T S ws) k) ∧ Pt w wr n k T S ws) (fun _ _ _ _ _ _ _ i _ => n - (intOf i).toNat)
  case atStart => exact ⟨0, Nat.zero_le _, rfl, by simp [Sp.su], Pt.start w n T S ws⟩
  case round =>
    obtain ⟨k, hkn, rfl, rfl, hP⟩ := hrel
    have HP := Lib.hid hP
    clear hP
    by_cases hlt : k < n
    · obtain ⟨b, o, rfl, hc⟩ := (H.out.below HP.out.1.2).2 (by omega)
      have hcell := hc k hlt
      clear hc
      obtain ⟨x, hx⟩ : ∃ x, ws.getD k 0 = x := ⟨_, rfl⟩
      rw [hx] at hcell
      have hx1 := HK.out.one k
      have hS := HK.out.2.2.1
      have hS2 := HK.out.2.2.2.1
      have hT := HK.out.1
      have hT2 := HK.out.2.1
      rw [hx] at hx1
      have M := Lib.hid fun W => mul64_any T x (by omega) (by omega) hx1.1 (by omega) W
      have hh := HK.out.high k
      have hp := (HK.out.prod k).1
      rw [hx] at hh hp
      have D := Lib.hid fun W => div64_hl (T * x) S hp hh (by omega) W
      have e1 : T * x / S = Sp.sh T S ws k := by unfold Sp.sh; rw [hx]
      have e2 : T * x % S = Sp.rs T S ws k := by unfold Sp.rs; rw [hx]
      rw [e1, e2] at D
      have hs1 := HK.out.sh k
      obtain ⟨L, hL⟩ : ∃ L, T - Sp.su (Sp.sh T S ws) k = L := ⟨_, rfl⟩
      have hl1 := HK.out.left (k := k + 1) (by have := H.out.1; omega)
      obtain ⟨y, hy⟩ : ∃ y, Sp.sh T S ws k = y := ⟨_, rfl⟩
      obtain ⟨z, hz⟩ : ∃ z, Sp.rs T S ws k = z := ⟨_, rfl⟩
      have ST := Lib.hid fun m => (HP.out.drewN m).step hlt
      have c3 := HP.out.2.2.2.1
      have c1 := HP.out.2.1 k hlt
      have c2 := HP.out.2.2.1 k hlt
      have c4 := HP.out.2.2.2.2 k hlt
      have hl3 : Sp.su (Sp.sh T S ws) (k + 1) = Sp.su (Sp.sh T S ws) k + Sp.sh T S ws k := rfl
      have HL := Lib.hid hl3
      rw [hl3] at hl1
      clear hl3
      rw [hy, hz] at D ST
      rw [hy] at hs1 hl1 HL
      have hl2 : y ≤ L := by omega
      have hl4 : L ≤ T := by
        have : 0 ≤ Sp.su (Sp.sh T S ws) k := Sp.su_nonneg fun t _ => (HK.out.sh t).1
        omega
      have HL2 := Lib.hid hL
      have HX := Lib.hid hx
      rw [hL]
      clear e1 e2 hx hy hz hL hh hp
      go_wp2_with (first | (go_at_call 39; refine (M.out _).mono ?_; rintro e w1 ⟨rfl, rfl⟩) | (go_at_call 40; refine (D.out _).mono ?_; rintro e w1 ⟨rfl, m, rfl⟩))
      go_region
      all_goals go_wp2
      go_roundw
      case rel => exact ⟨k + 1, hlt, by go_num, by rw [HL.out, ← HL2.out]; congr 1; omega, ST.out _⟩
      case measure => simp [intOf]; omega
    · obtain rfl : k = n := by omega
      obtain ⟨f, hB, hO, hid⟩ := (HP.out.2.2.2.2).ba
      have C := Lib.hid (cp_any wr (w.heap.size + 1 + 1 + 1) 0 k k (w.heap.size + 1) k (w.heap.size + 1 + 1) (Sp.ky T S ws) (by omega) (by omega) HP.out.2.2.2.1 fun j hj => by
        rw [Nat.zero_add, (HP.out.2.2.1 j hj).1]
        show some (Value.int .u64 (if j < k then Sp.rs T S ws j else 0)) = _
        rw [if_pos hj]
        unfold Sp.ky
        rw [Int.toNat_natCast])
      have SO := Lib.hid (sort_any wr (w.heap.size + 1 + 1 + 1) 0 k k k hB (by omega) _ _ C.out f wr hO (Nat.le_refl _) hid)
      clear hid hO
      go_wp2_with fail
      refine SO.out.mono ?_; rintro e w1 ⟨rfl, g, hg, hr⟩
      have P1 := Lib.hid (hg.after hB HP.out.1 (by omega) (by omega) HP.out.2.1)
      have HR := Lib.hid hr
      clear SO C hB hg hr
      obtain ⟨L, hL⟩ : ∃ L : Nat, T - Sp.su (Sp.sh T S ws) k = L := ⟨(T - Sp.su (Sp.sh T S ws) k).toNat, by
        have := HK.out.left (k := k) (by have := H.out.1; omega)
        omega⟩
      have hLk : L ≤ k := by
        have h1 := HK.out.few
        rw [H.out.1, hL] at h1
        omega
      have hLt : (L : Int) ≤ 9223372036854775807 := by omega
      rw [hL]
      have HLL := Lib.hid hL
      clear hL
      have HS1 := Lib.hid fun p => HK.out.sh p
      have HB2 : Hid (∀ p : Nat, p < k → 0 < L → Sp.sh T S ws p + 1 ≤ 9223372036854775807) := Lib.hid fun p hp h0 => by
        have h1 := HLL.out
        have h2 := HK.out.2.1
        have h3 := Sp.su_ge (f := Sp.sh T S ws) (fun t => (HK.out.sh t).1) hp
        omega
      clear HP hm1 hm2 hm3 H
      go_wp2_with fail
      go_loopw [18, 74] (fun _ i wr2 => ∃ j : Nat, j ≤ L ∧ i = .int .i64 j ∧ Quiet w wr2 ∧ Rv (Value.int .i64) wr2 w.heap.size k (fun t => Sp.sh T S ws t + Sp.hit g j t) ∧ Rv (Value.int .i64) wr2 (w.heap.size + 1 + 1 + 1) k g) (fun _ i _ => L - (intOf i).toNat)
      case atStart =>
        refine ⟨0, Nat.zero_le _, rfl, P1.out.1, ?_, P1.out.2.2⟩
        intro t ht
        have h1 := P1.out.2.1 t ht
        simp only [if_pos ht] at h1
        simpa [Sp.hit] using h1
      case round =>
        obtain ⟨j, hj, rfl, q2, r2, r3⟩ := hrel
        clear P1
        by_cases hjl : j < L
        · have hjk : j < k := by omega
          obtain ⟨gv, hgv⟩ : ∃ v, g j = v := ⟨_, rfl⟩
          have hin := (HR.out.2 (g j)).1 ⟨j, Nat.zero_le _, hjk, rfl⟩
          obtain ⟨p, rfl⟩ := Int.eq_ofNat_of_zero_le (a := gv) (by omega)
          have hpk : p < k := by omega
          have c1 := (r3 j hjk).1
          have c2 := r2 p hpk
          have hz : Sp.hit g j p = 0 := hit_zero fun i hi e => rn_ne HR.out hi hjk (e.trans hgv.symm)
          have hsp := HS1.out p
          have hsb := HB2.out p hpk (by omega)
          have ST := Lib.hid (r2.set hpk (Sp.sh T S ws p + 1))
          rw [ud_hit hgv hz] at ST
          simp only [hz, Int.add_zero] at c2
          rw [hgv] at c1
          obtain ⟨y, hy⟩ : ∃ y, Sp.sh T S ws p = y := ⟨_, rfl⟩
          rw [hy] at c2 hsp hsb ST
          have Q2 := Lib.hid q2
          have R3 := Lib.hid r3
          clear hy q2 r2 r3 hin
          go_wp2
          go_roundw
          case rel => exact ⟨j + 1, hjl, by go_num, Q2.out.setCell (Nat.le_refl _) _, ST.out, R3.out.far (by omega) _⟩
          case measure => simp [intOf]; omega
        · obtain rfl : j = L := by omega
          go_wp2
          go_ret
          exact ⟨g, HR.out, rfl, q2, by rw [HLL.out, Int.toNat_natCast]; exact r2⟩
end Go.Proofs.Ytlbekdpmfjhjhaa
