/- Texts of a proof, laid together: Wdt, Ua, Ub, Wdm. -/
import Derived.Laws.ResultCell
import Derived.Laws.CopyOwn
import Derived.Laws.Externs
import Derived.Lib.Overlaps
import Derived.Lib.AppendZerosOnto
import Derived.Shelf.RegionOpenPlain
import Derived.Lib.Walk
import Derived.Lib.SliceRun
import Derived.Test.YtbmlpokkojhhjaaGreatG10
import Derived.Test.YtbmlpokkojhhjaaGreatG06
import Derived.Test.YtbmlpokkojhhjaaGreatG07
import Derived.Test.YtbmlpokkojhhjaaGreatG01
/- The document's Take: a contract's data read field by field (by genWdt.py). -/
namespace Go.Proofs.YtbmlpokkojhhjaaGreat.Wt
open Go.RowKit
set_option linter.unusedVariables false
set_option linter.unusedSimpArgs false

section
variable {s : Sp}
theorem set0 (x : Int) : s.cells.setIfInBounds 0 (.int .u32 x) = ({ s with nu := x } : Sp).cells := by simp [Sp.cells, Sp.cellL]
theorem set1 (x : Int) : s.cells.setIfInBounds 1 (.int .u8 x) = ({ s with ro := x } : Sp).cells := by simp [Sp.cells, Sp.cellL]
theorem set2 (x : Int) : s.cells.setIfInBounds 2 (.int .i64 x) = ({ s with ti := x } : Sp).cells := by simp [Sp.cells, Sp.cellL]
theorem set3 (x : Int) : s.cells.setIfInBounds 3 (.int .i64 x) = ({ s with lo := x } : Sp).cells := by simp [Sp.cells, Sp.cellL]
theorem set4 (x : Int) : s.cells.setIfInBounds 4 (.int .i64 x) = ({ s with ba := x } : Sp).cells := by simp [Sp.cells, Sp.cellL]
theorem set5 (x : Int) : s.cells.setIfInBounds 5 (.int .i64 x) = ({ s with li := x } : Sp).cells := by simp [Sp.cells, Sp.cellL]
theorem set6 (h : s.sh.length = 16) (i : Nat) (hi : i < 16) (x : Int) : s.cells.setIfInBounds (6 + i) (.int .i64 x) = ({ s with sh := s.sh.set i x } : Sp).cells := by
  have hl : i < s.sh.length := by omega
  rw [show 6 + i = i + 1 + 1 + 1 + 1 + 1 + 1 by omega]
  simp [Sp.cells, Sp.cellL, hl, List.map_set]
theorem set22 (h : s.sh.length = 16) (x : Int) : s.cells.setIfInBounds 22 (.int .i64 x) = ({ s with cr := x } : Sp).cells := by simp [Sp.cells, Sp.cellL, h]
theorem set23 (h : s.sh.length = 16) (x : Int) : s.cells.setIfInBounds 23 (.int .u32 x) = ({ s with la := x } : Sp).cells := by simp [Sp.cells, Sp.cellL, h]
theorem set24 (h : s.sh.length = 16) (x : Int) : s.cells.setIfInBounds 24 (.int .i64 x) = ({ s with fi := x } : Sp).cells := by simp [Sp.cells, Sp.cellL, h]
end
theorem sR_most {bs : List Int} (hy : By bs) (e : Int) {m : Int} (hm : 0 ≤ m) : 0 ≤ (sR bs e m).1 ∧ (sR bs e m).1 ≤ m := by
  have hb := sR_bd hy e m
  refine ⟨hb.1, ?_⟩
  unfold sR
  split
  · exact hm
  · split
    · exact hm
    · split
      · exact hm
      · dsimp only; omega
theorem iR_by {bs : List Int} (hy : By bs) (e : Int) : By (iR bs e).2.1 ∧ (iR bs e).2.1.length ≤ bs.length := sR_by hy e top
theorem iR_fits {bs : List Int} (hy : By bs) (e : Int) : I64 (iR bs e).1 := by
  have hb := sR_bd hy e top
  show I64 (zz (sR bs e top).1)
  unfold zz I64
  split <;> omega
/-- A reader that lay there; the data read so far in a block that is new; the result's own. -/
structure Tk (w : World) (g g3 n0 : Nat) (A0 : Option Addr) (W : World) (s : Sp) (bs : List Int) (e : Int) : Prop where
  rq : ∃ A n c, Rr W g A n c bs e ∧ ∀ a, A = some a → ∃ a0, A0 = some a0 ∧ a.block = a0.block
  old : g < w.heap.size ∧ ∀ a0, A0 = some a0 → 0 < n0 → a0.block < w.heap.size
  len : bs.length ≤ n0
  new : w.heap.size < g3
  box : Box W g3 s
  res : ∃ z, Box W w.heap.size z
  gr : w.grownBy W (some g)
section
variable {w W W' : World} {g g3 n0 : Nat} {A0 : Option Addr} {s s' : Sp} {bs bs' : List Int} {e e' : Int}
theorem Tk.call (h : Tk w g g3 n0 A0 W s bs e) {A : Option Addr} (hA : ∀ a, A = some a → ∃ a0, A0 = some a0 ∧ a.block = a0.block) (d : Did W g A bs' e' W') (hl : bs'.length ≤ bs.length) : Tk w g g3 n0 A0 W' s bs' e' := by
  obtain ⟨⟨A', n, c, rq, hA'⟩, gr⟩ := d
  obtain ⟨z, hz⟩ := h.res
  have keep : ∀ k x, k ≠ g → Box W k x → Box W' k x := fun k x hk hb => ⟨(gr.block k (Array.getElem?_eq_some_iff.1 hb.1).1 (by simp; omega)).trans hb.1, hb.2⟩
  refine ⟨⟨A', n, c, rq, fun a ha => ?_⟩, h.old, Nat.le_trans hl h.len, h.new, keep g3 s (by have := h.old.1; have := h.new; omega) h.box, ⟨z, keep _ z (by have := h.old.1; omega) hz⟩, ?_⟩
  · obtain ⟨a1, h1, h2⟩ := hA' a ha
    obtain ⟨a0, h3, h4⟩ := hA a1 h1
    exact ⟨a0, h3, h2.trans h4⟩
  · exact ⟨gr.os.trans h.gr.os, gr.tape.trans h.gr.tape, gr.output.trans h.gr.output, Nat.le_trans h.gr.size gr.size, fun k hk hne => (gr.block k (Nat.lt_of_lt_of_le hk h.gr.size) hne).trans (h.gr.block k hk hne)⟩
theorem Tk.far (h : Tk w g g3 n0 A0 W s bs e) {k : Nat} (hk : w.heap.size ≤ k) (hW : W.heap.size ≤ W'.heap.size) (f : ∀ j, j ≠ k → W'.heap[j]? = W.heap[j]?) : ∃ A n c, Rr W' g A n c bs e ∧ ∀ a, A = some a → ∃ a0, A0 = some a0 ∧ a.block = a0.block := by
  obtain ⟨⟨A, n, c, rq, hA⟩, old, len, new, box, res, gr⟩ := h
  refine ⟨A, n, c, ⟨(f g (by omega)).trans rq.b, ⟨rq.r.1, fun hn => ?_⟩, rq.nc⟩, hA⟩
  obtain ⟨b, o, e1, hc⟩ := rq.r.2 hn
  refine ⟨b, o, e1, fun i hi => ?_⟩
  obtain ⟨a0, h1, h2⟩ := hA _ e1
  have hb : b < w.heap.size := by
    have := old.2 a0 h1 (by have := rq.r.1; omega)
    have h3 : b = a0.block := h2
    omega
  have := hc i hi
  simp only [World.cell?] at this ⊢
  rw [f b (by omega)]
  exact this
theorem Tk.put (h : Tk w g g3 n0 A0 W s bs e) {j : Nat} {v : Value} (hl : s'.sh.length = 16) (eq : s.cells.setIfInBounds j v = s'.cells) : Tk w g g3 n0 A0 (W.setCell ⟨g3, j, none⟩ v) s' bs e := by
  obtain ⟨z, hz⟩ := h.res
  have hn := h.new
  refine ⟨h.far (k := g3) (by omega) (by simp) (fun j' hj => heap_setCell_other _ _ _ _ hj), h.old, h.len, h.new, box_cell h.box hl eq, ⟨z, (heap_setCell_other _ _ _ _ (by show w.heap.size ≠ g3; omega)).trans hz.1, hz.2⟩, ?_⟩
  have gr := h.gr
  refine ⟨gr.os, gr.tape, gr.output, by have := gr.size; simpa using this, fun k hk hne => ?_⟩
  rw [heap_setCell_other _ _ _ _ (by show k ≠ g3; omega)]
  exact gr.block k hk hne
theorem Tk.below (h : Tk w g g3 n0 A0 W s bs e) (q : Below W.heap.size W W') : Tk w g g3 n0 A0 W' s bs e := by
  obtain ⟨A, n, c, rq, hA⟩ := h.rq
  exact h.call hA ⟨⟨A, n, c, rq.below q, like_self _⟩, below_grown q _⟩ (Nat.le_refl _)
/-- What is told is written into the result's own block. -/
theorem Tk.told (h : Tk w g g3 n0 A0 W s bs e) {x : Sp} (hx : x.sh.length = 16) : Did w g A0 bs e (W.setRow w.heap.size x.cells) ∧ Box (W.setRow w.heap.size x.cells) w.heap.size x := by
  obtain ⟨z, hz⟩ := h.res
  have gr := h.gr
  refine ⟨⟨h.far (k := w.heap.size) (Nat.le_refl _) (by simp [World.setRow]) (fun j hj => setRow_other _ _ _ _ hj), ?_⟩, box_set hz hx⟩
  exact ⟨gr.os, gr.tape, gr.output, by have := gr.size; show w.heap.size ≤ (W.heap.modify _ _).size; rw [Array.size_modify]; exact this, fun k hk hne => (setRow_other _ _ _ _ (by omega)).trans (gr.block k hk hne)⟩
end
theorem iRs_fits : ∀ {bs : List Int} (e : Int) (k : Nat), By bs → (∀ x, x ∈ (iRs bs e k).1 → I64 x) ∧ By (iRs bs e k).2.1 ∧ (iRs bs e k).2.1.length ≤ bs.length
  | bs, e, 0, hy => ⟨fun x hx => by simp [iRs] at hx, hy, Nat.le_refl _⟩
  | bs, e, k + 1, hy => by
    obtain ⟨h1, h2, h3⟩ := iRs_fits e k hy
    have hb := iR_by h2 (iRs bs e k).2.2
    refine ⟨fun x hx => ?_, hb.1, Nat.le_trans hb.2 h3⟩
    simp only [iRs] at hx
    rcases List.mem_append.1 hx with m | m
    · exact h1 x m
    · rw [List.mem_singleton.1 m]; exact iR_fits h2 _
/-- Shifts read so far. -/
def shP (xs : List Int) : List Int := xs ++ List.replicate (16 - xs.length) 0
theorem shP_len {xs : List Int} (h : xs.length ≤ 16) : (shP xs).length = 16 := by unfold shP; rw [List.length_append, List.length_replicate]; omega
theorem shP_set {xs : List Int} (h : xs.length < 16) (x : Int) : (shP xs).set xs.length x = shP (xs ++ [x]) := by
  unfold shP
  obtain ⟨m, hm⟩ : ∃ m, 16 - xs.length = m + 1 := ⟨16 - xs.length - 1, by omega⟩
  rw [hm, List.replicate_succ, List.set_append_right _ _ (Nat.le_refl _), Nat.sub_self, List.set_cons_zero, List.length_append, List.length_singleton, show 16 - (xs.length + 1) = m by omega, List.append_assoc]
  rfl
theorem shP_all {xs : List Int} (h : xs.length = 16) : shP xs = xs := by unfold shP; rw [h]; simp
def mT : Nat → Int
  | 0 => 4294967295
  | 1 => 255
  | 7 => 4294967295
  | _ => 9223372036854775807
set_option maxRecDepth 100000 in
set_option maxHeartbeats 16000000 in
/-- The document's Take: of the form of data that may be it is these. -/
theorem rtake15 (g n c : Nat) (A : Option Addr) (bs0 : List Int) (e0 : Int) (w : World) (h : Rr w g A n c bs0 e0) (hy : By bs0) (hn : n ≤ 20000) (hA0 : ∀ a, A = some a → 0 < n → a.block < w.heap.size) :
    Calls Tryz.prog 21 #[.pointer (some ⟨g, 0, none⟩)] w fun E W => ∃ s bs' e', E = .returned (.agg s.cells) ∧ s.ok ∧ By bs' ∧ bs'.length ≤ bs0.length ∧ Did w g A bs' e' W ∧ (∀ sp r, sp.ok → mayB sp = true → e0 = 0 → bs0 = form sp ++ r → s = sp ∧ bs' = r ∧ e' = 0) := by
  have Z := zero_sp
  have HZ : Hid ((List.replicate 16 (0 : Int)).length = 16) := Lib.hid (by simp)
  have b1 : Below w.heap.size w (w.alloc (.cells zeroSp.cells 29)) := below_new w _
  have T : Hid (Tk w g (w.heap.size + 1) n A ((w.alloc (.cells zeroSp.cells 29)).alloc (.cells zeroSp.cells 29)) zeroSp bs0 e0) := Lib.hid
    ⟨⟨A, n, c, h.below (((Below.refl _ w).alloc (Nat.le_refl _) _).alloc (by simp) _), fun a ha => ⟨a, ha, rfl⟩⟩, ⟨h.lt, hA0⟩, by rw [h.r.1]; exact Nat.le_refl _, by omega, ⟨heap_alloc2_new w _ _, rfl⟩, ⟨zeroSp, (box_new w (s := zeroSp) rfl).below (below_new _ _)⟩, below_grown (((Below.refl _ w).alloc (Nat.le_refl _) _).alloc (by simp) _) _⟩
  have BYs := Lib.hid hy
  have LE0 : Hid (bs0.length ≤ bs0.length) := Lib.hid (Nat.le_refl _)
  clear h hy hA0 b1
  go_enter Tryz.func21, Tryz.ntmps21
  go_wp2_with fail
  obtain ⟨A0, n0, c0, rq, hA⟩ := T.out.rq
  have hn0 : n0 ≤ 100000 := by have h1 := rq.r.1; have h2 := T.out.len; omega
  have SM := Lib.hid (rsmall_any g n0 c0 A0 bs0 e0 4294967295 _ rq BYs.out hn0)
  have MB := sR_most BYs.out e0 (m := 4294967295) (by decide)
  have NB := sR_by BYs.out e0 4294967295
  obtain ⟨⟨v0, bs1, e1⟩, hr⟩ : ∃ r, sR bs0 e0 4294967295 = r := ⟨_, rfl⟩
  unfold SmallE at SM
  rw [hr] at SM MB NB
  dsimp only at SM MB NB
  have HR0 := Lib.hid hr
  have BD0 := Lib.hid MB
  obtain ⟨mb1, mb2⟩ := MB
  have LE1 := Lib.hid (Nat.le_trans NB.2 LE0.out)
  clear hr rq hn0
  refine SM.out.mono ?_; rintro en W0 ⟨rfl, d⟩
  have T1 := Lib.hid (T.out.call hA d NB.2)
  have BYn := Lib.hid NB.1
  clear T d NB SM hA BYs
  have T := T1
  have BYs := BYn
  have hcell := T.out.box.cell 0
  rw [Sp.c0] at hcell
  have hfree := T.out.box.free 0
  have T2 := Lib.hid (T.out.put (v := .int .u32 v0) HZ.out (set0 v0))
  clear T1 BYn T
  go_wp2_with fail
  clear hcell hfree mb1 mb2
  have T := T2
  clear T2
  obtain ⟨A1, n1, c1, rq, hA⟩ := T.out.rq
  have hn1 : n1 ≤ 100000 := by have h1 := rq.r.1; have h2 := T.out.len; omega
  have SM := Lib.hid (rsmall_any g n1 c1 A1 bs1 e1 255 _ rq BYs.out hn1)
  have MB := sR_most BYs.out e1 (m := 255) (by decide)
  have NB := sR_by BYs.out e1 255
  obtain ⟨⟨v1, bs2, e2⟩, hr⟩ : ∃ r, sR bs1 e1 255 = r := ⟨_, rfl⟩
  unfold SmallE at SM
  rw [hr] at SM MB NB
  dsimp only at SM MB NB
  have HR1 := Lib.hid hr
  have BD1 := Lib.hid MB
  obtain ⟨mb1, mb2⟩ := MB
  have LE2 := Lib.hid (Nat.le_trans NB.2 LE1.out)
  clear hr rq hn1
  refine SM.out.mono ?_; rintro en W1 ⟨rfl, d⟩
  have T1 := Lib.hid (T.out.call hA d NB.2)
  have BYn := Lib.hid NB.1
  clear T d NB SM hA BYs
  have T := T1
  have BYs := BYn
  have hcell := T.out.box.cell 1
  rw [Sp.c1] at hcell
  have hfree := T.out.box.free 1
  have T2 := Lib.hid (T.out.put (v := .int .u8 v1) HZ.out (set1 v1))
  clear T1 BYn T
  go_wp2_with fail
  clear hcell hfree mb1 mb2
  have T := T2
  clear T2
  obtain ⟨A2, n2, c2, rq, hA⟩ := T.out.rq
  have hn2 : n2 ≤ 100000 := by have h1 := rq.r.1; have h2 := T.out.len; omega
  have SM := Lib.hid (rsmall_any g n2 c2 A2 bs2 e2 9223372036854775807 _ rq BYs.out hn2)
  have MB := sR_most BYs.out e2 (m := 9223372036854775807) (by decide)
  have NB := sR_by BYs.out e2 9223372036854775807
  obtain ⟨⟨v2, bs3, e3⟩, hr⟩ : ∃ r, sR bs2 e2 9223372036854775807 = r := ⟨_, rfl⟩
  unfold SmallE at SM
  rw [hr] at SM MB NB
  dsimp only at SM MB NB
  have HR2 := Lib.hid hr
  have BD2 := Lib.hid MB
  obtain ⟨mb1, mb2⟩ := MB
  have LE3 := Lib.hid (Nat.le_trans NB.2 LE2.out)
  clear hr rq hn2
  refine SM.out.mono ?_; rintro en W2 ⟨rfl, d⟩
  have T1 := Lib.hid (T.out.call hA d NB.2)
  have BYn := Lib.hid NB.1
  clear T d NB SM hA BYs
  have T := T1
  have BYs := BYn
  have hcell := T.out.box.cell 2
  rw [Sp.c2] at hcell
  have hfree := T.out.box.free 2
  have T2 := Lib.hid (T.out.put (v := .int .i64 v2) HZ.out (set2 v2))
  clear T1 BYn T
  go_wp2_with fail
  clear hcell hfree mb1 mb2
  have T := T2
  clear T2
  obtain ⟨A3, n3, c3, rq, hA⟩ := T.out.rq
  have hn3 : n3 ≤ 100000 := by have h1 := rq.r.1; have h2 := T.out.len; omega
  have SM := Lib.hid (rsmall_any g n3 c3 A3 bs3 e3 9223372036854775807 _ rq BYs.out hn3)
  have MB := sR_most BYs.out e3 (m := 9223372036854775807) (by decide)
  have NB := sR_by BYs.out e3 9223372036854775807
  obtain ⟨⟨v3, bs4, e4⟩, hr⟩ : ∃ r, sR bs3 e3 9223372036854775807 = r := ⟨_, rfl⟩
  unfold SmallE at SM
  rw [hr] at SM MB NB
  dsimp only at SM MB NB
  have HR3 := Lib.hid hr
  have BD3 := Lib.hid MB
  obtain ⟨mb1, mb2⟩ := MB
  have LE4 := Lib.hid (Nat.le_trans NB.2 LE3.out)
  clear hr rq hn3
  refine SM.out.mono ?_; rintro en W3 ⟨rfl, d⟩
  have T1 := Lib.hid (T.out.call hA d NB.2)
  have BYn := Lib.hid NB.1
  clear T d NB SM hA BYs
  have T := T1
  have BYs := BYn
  have hcell := T.out.box.cell 3
  rw [Sp.c3] at hcell
  have hfree := T.out.box.free 3
  have T2 := Lib.hid (T.out.put (v := .int .i64 v3) HZ.out (set3 v3))
  clear T1 BYn T
  go_wp2_with fail
  clear hcell hfree mb1 mb2
  have T := T2
  clear T2
  obtain ⟨A4, n4, c4, rq, hA⟩ := T.out.rq
  have hn4 : n4 ≤ 100000 := by have h1 := rq.r.1; have h2 := T.out.len; omega
  have SM := Lib.hid (rsmall_any g n4 c4 A4 bs4 e4 9223372036854775807 _ rq BYs.out hn4)
  have MB := sR_most BYs.out e4 (m := 9223372036854775807) (by decide)
  have NB := sR_by BYs.out e4 9223372036854775807
  obtain ⟨⟨v4, bs5, e5⟩, hr⟩ : ∃ r, sR bs4 e4 9223372036854775807 = r := ⟨_, rfl⟩
  unfold SmallE at SM
  rw [hr] at SM MB NB
  dsimp only at SM MB NB
  have HR4 := Lib.hid hr
  have BD4 := Lib.hid MB
  obtain ⟨mb1, mb2⟩ := MB
  have LE5 := Lib.hid (Nat.le_trans NB.2 LE4.out)
  clear hr rq hn4
  refine SM.out.mono ?_; rintro en W4 ⟨rfl, d⟩
  have T1 := Lib.hid (T.out.call hA d NB.2)
  have BYn := Lib.hid NB.1
  clear T d NB SM hA BYs
  have T := T1
  have BYs := BYn
  have hcell := T.out.box.cell 4
  rw [Sp.c4] at hcell
  have hfree := T.out.box.free 4
  have T2 := Lib.hid (T.out.put (v := .int .i64 v4) HZ.out (set4 v4))
  clear T1 BYn T
  go_wp2_with fail
  clear hcell hfree mb1 mb2
  have T := T2
  clear T2
  obtain ⟨A5, n5, c5, rq, hA⟩ := T.out.rq
  have hn5 : n5 ≤ 100000 := by have h1 := rq.r.1; have h2 := T.out.len; omega
  have SM := Lib.hid (rsmall_any g n5 c5 A5 bs5 e5 9223372036854775807 _ rq BYs.out hn5)
  have MB := sR_most BYs.out e5 (m := 9223372036854775807) (by decide)
  have NB := sR_by BYs.out e5 9223372036854775807
  obtain ⟨⟨v5, bs6, e6⟩, hr⟩ : ∃ r, sR bs5 e5 9223372036854775807 = r := ⟨_, rfl⟩
  unfold SmallE at SM
  rw [hr] at SM MB NB
  dsimp only at SM MB NB
  have HR5 := Lib.hid hr
  have BD5 := Lib.hid MB
  obtain ⟨mb1, mb2⟩ := MB
  have LE6 := Lib.hid (Nat.le_trans NB.2 LE5.out)
  clear hr rq hn5
  refine SM.out.mono ?_; rintro en W5 ⟨rfl, d⟩
  have T1 := Lib.hid (T.out.call hA d NB.2)
  have BYn := Lib.hid NB.1
  clear T d NB SM hA BYs
  have T := T1
  have BYs := BYn
  have hcell := T.out.box.cell 5
  rw [Sp.c5] at hcell
  have hfree := T.out.box.free 5
  have T2 := Lib.hid (T.out.put (v := .int .i64 v5) HZ.out (set5 v5))
  clear T1 BYn T
  go_wp2_with fail
  clear hcell hfree mb1 mb2
  have T := T2
  clear T2
  have T6 : Hid (Tk w g (w.heap.size + 1) n A _ ⟨v0, v1, v2, v3, v4, v5, shP [], 0, 0, 0⟩ bs6 e6) := T
  clear T
  go_loopw [4] (fun i wr => ∃ (k : Nat) (xs b : List Int) (e : Int), k ≤ 16 ∧ i = .int .i64 k ∧ iRs bs6 e6 k = (xs, b, e) ∧ Tk w g (w.heap.size + 1) n A wr ⟨v0, v1, v2, v3, v4, v5, shP xs, 0, 0, 0⟩ b e) (fun i _ => 16 - (intOf i).toNat)
  case atStart => exact ⟨0, [], bs6, e6, by omega, rfl, rfl, T6.out⟩
  case round =>
    obtain ⟨k, xs, b, e, hk, rfl, hq, tk⟩ := hrel
    have T := Lib.hid tk
    have xl : xs.length = k := by have := iRs_len bs6 e6 k; rw [hq] at this; exact this
    have fits := iRs_fits e6 k BYs.out
    rw [hq] at fits
    have HQ := Lib.hid hq
    have FT := Lib.hid fits
    clear tk hq fits T6
    by_cases hlt : k < 16
    case pos =>
      have hd : decide ((k : Int) < 16) = true := decide_eq_true (by omega)
      have hki : (k : Int) < 16 := by omega
      obtain ⟨A9, n9, c9, rq, hA⟩ := T.out.rq
      have hn9 : n9 ≤ 100000 := by have h1 := rq.r.1; have h2 := T.out.len; omega
      have SM := Lib.hid (rintr_any g n9 c9 A9 b e _ rq FT.out.2.1 hn9)
      have NB := sR_by FT.out.2.1 e top
      obtain ⟨⟨v, b', e'⟩, hr⟩ : ∃ r, iR b e = r := ⟨_, rfl⟩
      have h1 : zz (sR b e top).1 = v := congrArg Prod.fst hr
      have h2 : (sR b e top).2.1 = b' := congrArg (fun r => r.2.1) hr
      have h3 : (sR b e top).2.2 = e' := congrArg (fun r => r.2.2) hr
      unfold IntE at SM
      rw [h1, h2, h3] at SM
      rw [h2] at NB
      have HN : Hid (iRs bs6 e6 (k + 1) = (xs ++ [v], b', e')) := Lib.hid (by simp only [iRs]; rw [HQ.out]; dsimp only; rw [hr])
      clear rq hn9 hr h1 h2 h3
      go_wp2_with fail
      refine SM.out.mono ?_; rintro en W9 ⟨rfl, d⟩
      have T1 := Lib.hid (T.out.call hA d NB.2)
      clear T d NB SM hA
      have hcell := T1.out.box.cell (6 + k)
      rw [Sp.c6 (by exact shP_len (by omega)) k hlt] at hcell
      have hfree := T1.out.box.free (6 + k)
      have e6' := set6 (s := ⟨v0, v1, v2, v3, v4, v5, shP xs, 0, 0, 0⟩) (by exact shP_len (by omega)) k hlt v
      have ST : Hid ((shP xs).set k v = shP (xs ++ [v])) := Lib.hid (by rw [← xl]; exact shP_set (by omega) v)
      dsimp only at e6'
      rw [ST.out] at e6'
      have T2 := Lib.hid (T1.out.put (v := .int .i64 v) (by exact shP_len (by rw [List.length_append, List.length_singleton]; omega)) e6')
      clear T1 e6'
      go_wp2_with fail
      go_roundw
      case rel => exact ⟨k + 1, _, b', e', by omega, by go_num, HN.out, T2.out⟩
      case measure => simp [intOf]; omega
    case neg =>
      obtain rfl : k = 16 := by omega
      have HXS : Hid (shP xs = xs) := Lib.hid (shP_all xl)
      rw [HXS.out] at T
      have BYq := Lib.hid FT.out.2.1
      have LEq := Lib.hid (Nat.le_trans FT.out.2.2 LE6.out)
      have HXL := Lib.hid xl
      obtain ⟨bs7, hb7⟩ : ∃ x, b = x := ⟨_, rfl⟩
      obtain ⟨e7, he7⟩ : ∃ x, e = x := ⟨_, rfl⟩
      rw [hb7] at T LEq BYq HQ
      rw [he7] at T HQ
      have LE7 := LEq
      clear hb7 he7 FT
      have BY6 := BYs
      clear BYs LEq
      have BYs := BYq
      clear BYq
      go_wp2_with fail
      obtain ⟨A7, n7, c7, rq, hA⟩ := T.out.rq
      have hn7 : n7 ≤ 100000 := by have h1 := rq.r.1; have h2 := T.out.len; omega
      have SM := Lib.hid (rsmall_any g n7 c7 A7 bs7 e7 9223372036854775807 _ rq BYs.out hn7)
      have MB := sR_most BYs.out e7 (m := 9223372036854775807) (by decide)
      have NB := sR_by BYs.out e7 9223372036854775807
      obtain ⟨⟨v7, bs8, e8⟩, hr⟩ : ∃ r, sR bs7 e7 9223372036854775807 = r := ⟨_, rfl⟩
      unfold SmallE at SM
      rw [hr] at SM MB NB
      dsimp only at SM MB NB
      have HR7 := Lib.hid hr
      have BD7 := Lib.hid MB
      obtain ⟨mb1, mb2⟩ := MB
      have LE8 := Lib.hid (Nat.le_trans NB.2 LE7.out)
      clear hr rq hn7
      refine SM.out.mono ?_; rintro en W7 ⟨rfl, d⟩
      have T1 := Lib.hid (T.out.call hA d NB.2)
      have BYn := Lib.hid NB.1
      clear T d NB SM hA BYs
      have T := T1
      have BYs := BYn
      have hcell := T.out.box.cell 22
      rw [Sp.c22 (by exact HXL.out)] at hcell
      have hfree := T.out.box.free 22
      have T2 := Lib.hid (T.out.put (v := .int .i64 v7) (by exact HXL.out) (set22 (by exact HXL.out) v7))
      clear T1 BYn T
      go_wp2_with fail
      clear hcell hfree mb1 mb2
      have T := T2
      clear T2
      obtain ⟨A8, n8, c8, rq, hA⟩ := T.out.rq
      have hn8 : n8 ≤ 100000 := by have h1 := rq.r.1; have h2 := T.out.len; omega
      have SM := Lib.hid (rsmall_any g n8 c8 A8 bs8 e8 4294967295 _ rq BYs.out hn8)
      have MB := sR_most BYs.out e8 (m := 4294967295) (by decide)
      have NB := sR_by BYs.out e8 4294967295
      obtain ⟨⟨v8, bs9, e9⟩, hr⟩ : ∃ r, sR bs8 e8 4294967295 = r := ⟨_, rfl⟩
      unfold SmallE at SM
      rw [hr] at SM MB NB
      dsimp only at SM MB NB
      have HR8 := Lib.hid hr
      have BD8 := Lib.hid MB
      obtain ⟨mb1, mb2⟩ := MB
      have LE9 := Lib.hid (Nat.le_trans NB.2 LE8.out)
      clear hr rq hn8
      refine SM.out.mono ?_; rintro en W8 ⟨rfl, d⟩
      have T1 := Lib.hid (T.out.call hA d NB.2)
      have BYn := Lib.hid NB.1
      clear T d NB SM hA BYs
      have T := T1
      have BYs := BYn
      have hcell := T.out.box.cell 23
      rw [Sp.c23 (by exact HXL.out)] at hcell
      have hfree := T.out.box.free 23
      have T2 := Lib.hid (T.out.put (v := .int .u32 v8) (by exact HXL.out) (set23 (by exact HXL.out) v8))
      clear T1 BYn T
      go_wp2_with fail
      clear hcell hfree mb1 mb2
      have T := T2
      clear T2
      obtain ⟨A9, n9, c9, rq, hA⟩ := T.out.rq
      have hn9 : n9 ≤ 100000 := by have h1 := rq.r.1; have h2 := T.out.len; omega
      have SM := Lib.hid (rsmall_any g n9 c9 A9 bs9 e9 9223372036854775807 _ rq BYs.out hn9)
      have MB := sR_most BYs.out e9 (m := 9223372036854775807) (by decide)
      have NB := sR_by BYs.out e9 9223372036854775807
      obtain ⟨⟨v9, bs10, e10⟩, hr⟩ : ∃ r, sR bs9 e9 9223372036854775807 = r := ⟨_, rfl⟩
      unfold SmallE at SM
      rw [hr] at SM MB NB
      dsimp only at SM MB NB
      have HR9 := Lib.hid hr
      have BD9 := Lib.hid MB
      obtain ⟨mb1, mb2⟩ := MB
      have LE10 := Lib.hid (Nat.le_trans NB.2 LE9.out)
      clear hr rq hn9
      refine SM.out.mono ?_; rintro en W9 ⟨rfl, d⟩
      have T1 := Lib.hid (T.out.call hA d NB.2)
      have BYn := Lib.hid NB.1
      clear T d NB SM hA BYs
      have T := T1
      have BYs := BYn
      have hcell := T.out.box.cell 24
      rw [Sp.c24 (by exact HXL.out)] at hcell
      have hfree := T.out.box.free 24
      have T2 := Lib.hid (T.out.put (v := .int .i64 v9) (by exact HXL.out) (set24 (by exact HXL.out) v9))
      clear T1 BYn T
      skip
      skip
      have T := T2
      clear T2
      have TS : Hid (tS mT bs0 e0 = (⟨v0, v1, v2, v3, v4, v5, xs, v7, v8, v9⟩, bs10, e10)) := Lib.hid (by
        show tS mT bs0 e0 = _
        have r0 : sR bs0 e0 (mT 0) = _ := HR0.out
        have r1 : sR bs1 e1 (mT 1) = _ := HR1.out
        have r2 : sR bs2 e2 (mT 2) = _ := HR2.out
        have r3 : sR bs3 e3 (mT 3) = _ := HR3.out
        have r4 : sR bs4 e4 (mT 4) = _ := HR4.out
        have r5 : sR bs5 e5 (mT 5) = _ := HR5.out
        have r7 : sR bs7 e7 (mT 6) = _ := HR7.out
        have r8 : sR bs8 e8 (mT 7) = _ := HR8.out
        have r9 : sR bs9 e9 (mT 8) = _ := HR9.out
        unfold tS
        simp only [r0, r1, r2, r3, r4, r5, HQ.out, r7, r8, r9])
      have SOK : Hid ((⟨v0, v1, v2, v3, v4, v5, xs, v7, v8, v9⟩ : Sp).ok) := Lib.hid (by
        have q := (iRs_fits e6 16 BY6.out).1
        rw [HQ.out] at q
        have i : ∀ x : Int, 0 ≤ x ∧ x ≤ 9223372036854775807 → I64 x := fun x h => by unfold I64; omega
        exact ⟨BD0.out, BD1.out, i _ BD2.out, i _ BD3.out, i _ BD4.out, i _ BD5.out, HXL.out, q, i _ BD7.out, BD8.out, i _ BD9.out⟩)
      have FORM : Hid (∀ sp r, sp.ok → mayB sp = true → e0 = 0 → bs0 = form sp ++ r → (⟨v0, v1, v2, v3, v4, v5, xs, v7, v8, v9⟩ : Sp) = sp ∧ bs10 = r ∧ e10 = 0) := Lib.hid (by
        rintro sp r ok hm rfl rfl
        have hp := head_parts (may_head hm)
        have hf := may_fi hm
        have a1 := ok.nu
        have a3 := ok.ro
        have a5 := ok.la
        have e := tS_form mT ok hm (by show sp.nu ≤ 4294967295; omega) (by show sp.ro ≤ 255; omega) (by show sp.ti ≤ 9223372036854775807; omega) (by show sp.lo ≤ 9223372036854775807; omega) (by show sp.ba ≤ 9223372036854775807; omega) (by show sp.li ≤ 9223372036854775807; omega) (by show sp.cr ≤ 9223372036854775807; omega) (by show sp.la ≤ 4294967295; omega) (by show sp.fi ≤ 9223372036854775807; omega) r
        rw [TS.out] at e
        simp only [Prod.mk.injEq] at e
        exact e)
      clear TS HR0 HR1 HR2 HR3 HR4 HR5 HR7 HR8 HR9 HQ BD0 BD1 BD2 BD3 BD4 BD5 BD7 BD8 BD9
      obtain ⟨s, hs⟩ : ∃ s, (⟨v0, v1, v2, v3, v4, v5, xs, v7, v8, v9⟩ : Sp) = s := ⟨_, rfl⟩
      rw [hs] at T SOK FORM
      have ZL : Hid (zeroSp.sh.length = 16) := Lib.hid (by decide)
      have ZOK := Lib.hid zero_ok
      obtain ⟨V, hV⟩ : ∃ V, W9.setCell ⟨w.heap.size + 1, 24, none⟩ (.int .i64 v9) = V := ⟨_, rfl⟩
      rw [hV] at T
      have HV := Lib.hid hV
      obtain ⟨A8, n8, c8, rq, hA⟩ := T.out.rq
      have kE := rq.c1
      have BX := Lib.hid T.out.box
      have HS := Lib.hid hs
      clear hs hV
      by_cases he : e10 = 0
      case neg =>
        have d5 : (e10 != 0) = true := by simp [he]
        have FA := Lib.hid (rfail_any g n8 c8 A8 bs10 e10 5 V rq)
        rw [if_neg he] at FA
        have HE := Lib.hid he
        clear rq he
        go_wp2_with (rw [HV.out])
        refine FA.out.mono ?_; rintro en Wf ⟨rfl, d⟩
        have TF := Lib.hid (T.out.call hA d (Nat.le_refl _))
        clear d kE FA
        obtain ⟨z, hz⟩ := TF.out.res
        have BZ := Lib.hid hz
        have TL := TF.out.told (x := zeroSp) ZL.out
        obtain ⟨Wz, hWz⟩ : ∃ W, Wf.setRow w.heap.size zeroSp.cells = W := ⟨_, rfl⟩
        rw [hWz] at TL
        have HWz := Lib.hid hWz
        have TLL := Lib.hid TL
        clear hz hWz TL
        go_wp2_with (first | ((with_reducible refine wl_build_sp15 ?_ ?_); rfl) | ((with_reducible refine wl_store_sp zeroSp w.heap.size BZ.out ZL.out ?_ ?_ ?_); rfl; rfl; rw [HWz.out]))
        (try simp only [Exit.inBlock, Exit.then])
        refine bodyPost_ret (results_cell_row rfl _ Wz w.heap.size 29 zeroSp.cells (0, 0) _ rfl TLL.out.2.1 Tryz.underlying29 rfl (by rw [info_sp, Sp.size ZL.out])) rfl ?_
        exact ⟨zeroSp, bs10, e10, rfl, ZOK.out, BYs.out, LE10.out, TLL.out.1, fun sp r a b c d => absurd (FORM.out sp r a b c d).2.2 HE.out⟩
      case pos =>
        subst he
        have d5 : ((0 : Int) != 0) = false := by decide
        have MY := Lib.hid (rmay_any s V SOK.out)
        clear rq
        cases hm : mayB s
        case false =>
          rw [hm] at MY
          have HM := Lib.hid hm
          clear hm
          go_wp2_with (first | (rw [HV.out]) | ((with_reducible refine wl_load_sp (w.heap.size + 1) BX.out ?_ ?_ ?_); rfl; rfl))
          refine MY.out.mono ?_; rintro en Wm ⟨rfl, qm⟩
          have TM := Lib.hid (T.out.below qm)
          obtain ⟨A7, n7, c7, rq7, hA7⟩ := TM.out.rq
          have FA := Lib.hid (rfail_any g n7 c7 A7 bs10 0 5 Wm rq7)
          rw [if_pos rfl] at FA
          clear qm rq7 kE
          go_wp2_with fail
          refine FA.out.mono ?_; rintro en Wf ⟨rfl, d⟩
          have TF := Lib.hid (TM.out.call hA7 d (Nat.le_refl _))
          clear d FA
          obtain ⟨z, hz⟩ := TF.out.res
          have BZ := Lib.hid hz
          have TL := TF.out.told (x := zeroSp) ZL.out
          obtain ⟨Wz, hWz⟩ : ∃ W, Wf.setRow w.heap.size zeroSp.cells = W := ⟨_, rfl⟩
          rw [hWz] at TL
          have HWz := Lib.hid hWz
          have TLL := Lib.hid TL
          clear hz hWz TL
          go_wp2_with (first | ((with_reducible refine wl_build_sp15 ?_ ?_); rfl) | ((with_reducible refine wl_store_sp zeroSp w.heap.size BZ.out ZL.out ?_ ?_ ?_); rfl; rfl; rw [HWz.out]))
          (try simp only [Exit.inBlock, Exit.then])
          refine bodyPost_ret (results_cell_row rfl _ Wz w.heap.size 29 zeroSp.cells (0, 0) _ rfl TLL.out.2.1 Tryz.underlying29 rfl (by rw [info_sp, Sp.size ZL.out])) rfl ?_
          exact ⟨zeroSp, bs10, 5, rfl, ZOK.out, BYs.out, LE10.out, TLL.out.1, fun sp r a b c d => by have e := (FORM.out sp r a b c d).1; have m := HM.out; rw [e, b] at m; cases m⟩
        case true =>
          rw [hm] at MY
          clear hm
          go_wp2_with (first | (rw [HV.out]) | ((with_reducible refine wl_load_sp (w.heap.size + 1) BX.out ?_ ?_ ?_); rfl; rfl))
          refine MY.out.mono ?_; rintro en Wm ⟨rfl, qm⟩
          have TF := Lib.hid (T.out.below qm)
          clear qm kE
          obtain ⟨z, hz⟩ := TF.out.res
          have BZ := Lib.hid hz
          have BXm := Lib.hid TF.out.box
          have SL := Lib.hid SOK.out.len
          have TL := TF.out.told (x := s) SL.out
          obtain ⟨Wz, hWz⟩ : ∃ W, Wm.setRow w.heap.size s.cells = W := ⟨_, rfl⟩
          rw [hWz] at TL
          have HWz := Lib.hid hWz
          have TLL := Lib.hid TL
          clear hz hWz TL
          go_wp2_with (first | ((with_reducible refine wl_load_sp (w.heap.size + 1) BXm.out ?_ ?_ ?_); rfl; rfl) | ((with_reducible refine wl_store_sp s w.heap.size BZ.out SL.out ?_ ?_ ?_); rfl; rfl; rw [HWz.out]))
          (try simp only [Exit.inBlock, Exit.then])
          refine bodyPost_ret (results_cell_row rfl _ Wz w.heap.size 29 s.cells (0, 0) _ rfl TLL.out.2.1 Tryz.underlying29 rfl (by rw [info_sp, Sp.size SL.out])) rfl ?_
          exact ⟨s, bs10, 0, rfl, SOK.out, BYs.out, LE10.out, TLL.out.1, fun sp r a b c d => by have q := FORM.out sp r a b c d; exact ⟨q.1, q.2.1, rfl⟩⟩
end Go.Proofs.YtbmlpokkojhhjaaGreat.Wt
/- Lists of structs and the library's search, insert, delete: plain facts, whatever the struct; no program's function, no program's type. -/
namespace Go.Proofs.YtbmlpokkojhhjaaGreat
open Go.RowKit Go.Shelf
set_option linter.unusedVariables false
set_option linter.unusedSimpArgs false

section
variable {α : Type} {E : Elt α}
/-- Where the first one is that meets a test; -1. -/
def gidx (p : α → Bool) (l : List α) : Int := match l.findIdx? p with | some k => (k : Int) | none => -1
theorem gidx_hit {p : α → Bool} {l : List α} {k : Nat} {x : α} (hx : l[k]? = some x) (hp : p x = true) (hn : ∀ (j : Nat) (y : α), j < k → l[j]? = some y → p y = false) : l.findIdx? p = some k := by
  obtain ⟨hk, rfl⟩ := List.getElem?_eq_some_iff.1 hx
  refine List.findIdx?_eq_some_iff_getElem.2 ⟨hk, hp, fun j hj => ?_⟩
  rw [hn j _ hj (List.getElem?_eq_getElem _)]
  decide
theorem gidx_miss {p : α → Bool} {l : List α} (hn : ∀ (j : Nat) (y : α), l[j]? = some y → p y = false) : l.findIdx? p = none := by
  refine List.findIdx?_eq_none_iff.2 fun y hy => ?_
  obtain ⟨j, hj⟩ := List.getElem?_of_mem hy
  exact hn j y hj
theorem gidx_cases (p : α → Bool) (l : List α) : (gidx p l = -1 ∧ ∀ y, y ∈ l → p y = false) ∨ ∃ (k : Nat) (x : α), gidx p l = k ∧ k < l.length ∧ l[k]? = some x ∧ p x = true ∧ ∀ (j : Nat) (y : α), j < k → l[j]? = some y → p y = false := by
  unfold gidx
  cases e : l.findIdx? p with
  | none => exact .inl ⟨rfl, List.findIdx?_eq_none_iff.1 e⟩
  | some k =>
    obtain ⟨hk, hp, hn⟩ := List.findIdx?_eq_some_iff_getElem.1 e
    refine .inr ⟨k, l[k], rfl, hk, List.getElem?_eq_getElem hk, hp, fun j y hj hy => ?_⟩
    obtain ⟨hj', rfl⟩ := List.getElem?_eq_some_iff.1 hy
    have := hn j hj
    simpa using this
/-- A test of a struct, told by a function value: it may lay blocks of its own. -/
def GTests (P : Program) (E : Elt α) (ok : α → Prop) (g : Nat) (lb : Array Value) (p : α → Bool) (w : World) : Prop :=
  ∀ (W : World) (x : α), Below w.heap.size w W → ok x → Calls P g (#[.agg (E.cells x).toArray] ++ lb) W fun e w' => e = .returned (.bool (p x)) ∧ Below W.heap.size W w'
theorem gins_len {l : List α} {x : α} {i n : Nat} (hl : l.length = n) (hi : i ≤ n) : (l.take i ++ x :: l.drop i).length = n + 1 := by
  rw [List.length_append, List.length_cons, List.length_take, List.length_drop, hl, Nat.min_eq_left hi]; omega
theorem gl_take {l : List α} {n i : Nat} (hl : l.length = n) (hi : i ≤ n) : (E.flat (l.take i)).length = i * E.N := by
  rw [gflat_len, List.length_take, hl, Nat.min_eq_left hi]
theorem gl_drop {l : List α} {n i : Nat} (hl : l.length = n) : (E.flat (l.drop i)).length = n * E.N - i * E.N := by
  rw [gflat_len, List.length_drop, hl, Nat.sub_mul]
/-- A row behind two copies: what stood from a place on is moved by one, and one is laid there. -/
theorem grow_ins {L : List Value} {l : List α} {x : α} {i n : Nat} (hl : l.length = n) (hi : i ≤ n) (hL : L.take (i * E.N) = E.flat (l.take i)) (hZ : (n + 1) * E.N ≤ L.length) :
    ((splice (splice L ((i + 1) * E.N) (E.flat (l.drop i))) (i * E.N) (E.cells x))).take ((n + 1) * E.N) = E.flat (l.take i ++ x :: l.drop i) ∧ (splice (splice L ((i + 1) * E.N) (E.flat (l.drop i))) (i * E.N) (E.cells x)).length = L.length := by
  have h1 := gl_drop (E := E) (i := i) hl
  have h3 := gl_take (E := E) hl hi
  have h2 := E.len x
  have hm := Nat.mul_le_mul_right E.N hi
  rw [Nat.succ_mul] at hZ ⊢
  rw [Nat.succ_mul]
  generalize i * E.N = a at *
  generalize n * E.N = b at *
  generalize E.N = M at *
  have l1 : (splice L (a + M) (E.flat (l.drop i))).length = L.length := length_splice _ _ _ (by rw [h1]; omega)
  refine ⟨?_, by rw [length_splice _ _ _ (by rw [l1, h2]; omega), l1]⟩
  have e1 : (splice L (a + M) (E.flat (l.drop i))).take a = E.flat (l.take i) := by
    unfold splice
    rw [List.take_append_of_le_length (by rw [List.length_take]; omega), List.take_take, Nat.min_eq_left (by omega), hL]
  have e2 : (splice L (a + M) (E.flat (l.drop i))).drop (a + M) = E.flat (l.drop i) ++ L.drop (a + M + (b - a)) := by
    unfold splice
    rw [List.drop_append_of_le_length (by rw [List.length_take]; omega), List.drop_take, show a + M - (a + M) = 0 by omega, List.take_zero, List.nil_append, h1]
  have e3 : splice (splice L (a + M) (E.flat (l.drop i))) a (E.cells x) = E.flat (l.take i) ++ (E.cells x ++ (E.flat (l.drop i) ++ L.drop (a + M + (b - a)))) := by
    rw [splice, e1, h2, e2]
  have e4 : E.flat (l.take i ++ x :: l.drop i) = E.flat (l.take i) ++ (E.cells x ++ E.flat (l.drop i)) := by rw [gflat_app, gflat_cons]
  rw [e3, e4, ← List.append_assoc (E.cells x), ← List.append_assoc (E.flat _)]
  rw [List.take_append_of_le_length (by rw [List.length_append, List.length_append, h1, h2, h3]; omega)]
  exact List.take_of_length_le (by rw [List.length_append, List.length_append, h1, h2, h3]; omega)
theorem grow_ins2 {L : List Value} {l : List α} {x : α} {i n : Nat} (hl : l.length = n) (hi : i ≤ n) (hL : L.take (i * E.N) = E.flat (l.take i)) (hZ : (n + 1) * E.N ≤ L.length) :
    (splice (splice L (i * E.N) (E.cells x)) ((i + 1) * E.N) (E.flat (l.drop i))).take ((n + 1) * E.N) = E.flat (l.take i ++ x :: l.drop i) ∧ (splice (splice L (i * E.N) (E.cells x)) ((i + 1) * E.N) (E.flat (l.drop i))).length = L.length := by
  have h1 := gl_drop (E := E) (i := i) hl
  have h3 := gl_take (E := E) hl hi
  have h2 := E.len x
  have hm := Nat.mul_le_mul_right E.N hi
  rw [Nat.succ_mul] at hZ ⊢
  rw [Nat.succ_mul]
  generalize i * E.N = a at *
  generalize n * E.N = b at *
  generalize E.N = M at *
  have l1 : (splice L a (E.cells x)).length = L.length := length_splice _ _ _ (by rw [h2]; omega)
  refine ⟨?_, by rw [length_splice _ _ _ (by rw [l1, h1]; omega), l1]⟩
  have e1 : (splice L a (E.cells x)).take (a + M) = E.flat (l.take i) ++ E.cells x := by
    rw [splice, hL, ← List.append_assoc, List.take_append_of_le_length (by rw [List.length_append, h2, h3]; omega)]
    exact List.take_of_length_le (by rw [List.length_append, h2, h3]; omega)
  have e4 : E.flat (l.take i ++ x :: l.drop i) = E.flat (l.take i) ++ (E.cells x ++ E.flat (l.drop i)) := by rw [gflat_app, gflat_cons]
  have e5 : splice (splice L a (E.cells x)) (a + M) (E.flat (l.drop i)) = (splice L a (E.cells x)).take (a + M) ++ (E.flat (l.drop i) ++ (splice L a (E.cells x)).drop (a + M + (E.flat (l.drop i)).length)) := rfl
  rw [e5, e1, e4, ← List.append_assoc, ← List.append_assoc (E.flat (l.take i)), List.take_append_of_le_length (by rw [List.length_append, List.length_append, h1, h2, h3]; omega)]
  exact List.take_of_length_le (by rw [List.length_append, List.length_append, h1, h2, h3]; omega)
/-- A row behind a delete: what stood behind a place is moved to it, and the last one is made noughts. -/
theorem grow_del {L : List Value} {l : List α} {i n : Nat} {Z : List Value} (hl : l.length = n + 1) (hi : i ≤ n) (hL : L.take ((n + 1) * E.N) = E.flat l) (hZ : (n + 1) * E.N ≤ L.length) (hz : Z.length = E.N) :
    (splice (splice L (i * E.N) (E.flat (l.drop (i + 1)))) (n * E.N) Z).take (n * E.N) = E.flat (l.eraseIdx i) ∧ (splice (splice L (i * E.N) (E.flat (l.drop (i + 1)))) (n * E.N) Z).length = L.length := by
  have h1 := gl_drop (E := E) (i := i + 1) hl
  have h3 := gl_take (E := E) hl (Nat.le_succ_of_le hi)
  have hm := Nat.mul_le_mul_right E.N hi
  have hA : L.take (i * E.N) = E.flat (l.take i) := by
    have := congrArg (List.take (i * E.N)) hL
    rw [List.take_take, gflat_take, Nat.min_eq_left (Nat.mul_le_mul_right E.N (Nat.le_succ_of_le hi))] at this
    exact this
  rw [Nat.succ_mul, Nat.succ_mul] at h1
  rw [Nat.succ_mul] at hZ
  generalize i * E.N = a at *
  generalize n * E.N = b at *
  generalize E.N = M at *
  have l1 : (splice L a (E.flat (l.drop (i + 1)))).length = L.length := length_splice _ _ _ (by rw [h1]; omega)
  refine ⟨?_, by rw [length_splice _ _ _ (by rw [l1, hz]; omega), l1]⟩
  rw [List.eraseIdx_eq_take_drop_succ, gflat_app, splice, List.take_append_of_le_length (by rw [List.length_take, l1]; omega), List.take_take, Nat.min_self, splice, hA, ← List.append_assoc, List.take_append_of_le_length (by rw [List.length_append, h1, h3]; omega)]
  exact List.take_of_length_le (by rw [List.length_append, h1, h3]; omega)
end
section
variable {α : Type} {E : Elt α} {P : Program} {ts te : TypeId}
/-- copy, into a row. -/
theorem grun_copy (T : EltT P E ts te) (w : World) (ty : TypeId) (g o dLen dCap : Nat) (a : Addr) (sLen sCap m : Nat) (cur : Array Value) (cs : List Value) (hg : w.heap[g]? = some (.cells cur te (0, 0))) (hm : Nat.min sLen dLen = m) (hn : cs.length = m * E.N)
    (hsrc : ∀ j v, cs[j]? = some v → w.cell? (a.add j) = some v) (hfit : o + cs.length ≤ cur.size) (h1 : ∀ v ∈ cs, v.oneCell' = true) :
    (Builtin.copy_ #[ts, ts] ty #[.slice (some ⟨g, o, none⟩) dLen dCap, .slice (some a) sLen sCap]).run P w = .ok (goInt m) (w.setRow g (splice cur.toList o cs).toArray) := by
  have hl := run_loadCells_list (P := P) w a cs hsrc
  have hst := run_storeCells_at P g o te cs 0 cur w hg (by simpa using hfit) h1
  obtain ⟨z, by', hi, _, _⟩ := T.info
  obtain ⟨i0, hi0, _, hz1, _⟩ := info_parts hi
  rw [splice, ← List.append_assoc]
  simp [Builtin.copy_, run_underlying T.und, Builtin.lenOf, Builtin.firstCells, sizeOf, typeInfo, hi0, hz1, hm, ← hn, hl, hst]
theorem gstep_copy {ops : Array Oper} {o : Oper} {a : Act} {w : World} {K : Act → World → Prop} {Q : Exit → Act → World → Prop} {X : Prop}
    (hg : o.guard = none) (d x : Operand) (dT sT : TypeId) (hop : o.op = Op.call { callee := Callee.builtin Builtin.copy, args := #[d, x], argTypes := #[dT, sT] })
    (v u : Value) (hd : a.eval d = v) (hx : a.eval x = u) {v' : Value} {w' : World} (hr : (Builtin.copy_ #[dT, sT] o.type #[v, u]).run P w = .ok v' w') (hK : K (a.put o.dst v') w') :
    if Region.wanted o (yielded ops a.tmps) = true then Oper.wp P o a w K Q else X := by
  have hw : Region.wanted o (yielded ops a.tmps) = true := by simp [Region.wanted, hg]
  rw [if_pos hw]
  unfold Oper.wp
  simp [execOp, hop, resolve, invoke, builtin, hd, hx, hr, Result.andThen]
  exact hK
theorem gwl_copy (w : World) {ops : Array Oper} {rest : List Oper} {o : Oper} {a : Act} {Q : Exit → Act → World → Prop} (hgd : o.guard = none) (d s : Operand) (t t' : TypeId)
    (ho : o.op = .call { callee := .builtin .copy, args := #[d, s], argTypes := #[t, t'] }) (v u : Value) (hd : a.eval d = v) (hs : a.eval s = u) {v' : Value} {w' : World}
    (hr : (Builtin.copy_ #[t, t'] o.type #[v, u]).run P w = .ok v' w') (h : wpList P ops Q rest (a.put o.dst v') w') : wpList P ops Q (o :: rest) a w :=
  wpList_plain hgd fun K hK => by
    unfold Oper.wp execOp
    simp only [ho, resolve, invoke, builtin, Sem.run_bind, Sem.run_pure, Result.andThen_ok, List.map_toArray, List.map_cons, List.map_nil, hd, hs, hr]
    exact hK _ _ h
/-- append upon a row that has room. -/
theorem grun_room (T : EltT P E ts te) (w : World) (ty : TypeId) (g sLen sCap : Nat) (cur : Array Value) (hg : w.heap[g]? = some (.cells cur te (0, 0))) (a : Addr) (m c : Nat) (news : List Value) (hl : news.length = m * E.N) (hnews : ∀ j u, news[j]? = some u → w.cell? (a.add j) = some u)
    (h1 : ∀ u ∈ news, u.oneCell' = true) (hroom : sLen + m ≤ sCap) (hfit : sLen * E.N + news.length ≤ cur.size) :
    (Builtin.append_ #[ts, ts] ty #[.slice (some ⟨g, 0, none⟩) sLen sCap, .slice (some a) m c]).run P w = .ok (.slice (some ⟨g, 0, none⟩) (sLen + m) sCap) (w.setRow g (splice cur.toList (sLen * E.N) news).toArray) := by
  obtain ⟨z, by', hi, _, _⟩ := T.info
  obtain ⟨i0, hi0, _, hz1, _⟩ := info_parts hi
  have := run_append_room (P := P) w ts ty te i0 T.und hi0 g sLen sCap cur hg a m c news (by rw [hz1]; exact hl) hnews h1 hroom (by rw [hz1]; exact hfit)
  rw [this, splice, hz1, ← List.append_assoc]
theorem gstep_append {ops : Array Oper} {o : Oper} {a : Act} {w : World} {K : Act → World → Prop} {Q : Exit → Act → World → Prop} {X : Prop}
    (hg : o.guard = none) (d x : Operand) (dT sT : TypeId) (hop : o.op = Op.call { callee := Callee.builtin Builtin.append, args := #[d, x], argTypes := #[dT, sT] })
    (v u : Value) (hd : a.eval d = v) (hx : a.eval x = u) {v' : Value} {w' : World} (hr : (Builtin.append_ #[dT, sT] o.type #[v, u]).run P w = .ok v' w') (hK : K (a.put o.dst v') w') :
    if Region.wanted o (yielded ops a.tmps) = true then Oper.wp P o a w K Q else X := by
  have hw : Region.wanted o (yielded ops a.tmps) = true := by simp [Region.wanted, hg]
  rw [if_pos hw]
  unfold Oper.wp
  simp [execOp, hop, resolve, invoke, builtin, hd, hx, hr, Result.andThen]
  exact hK
/-- clear, of a part of a row. -/
theorem grun_clear (T : EltT P E ts te) (w : World) (ty : TypeId) {z : Value} (hv : ∀ w, (zeroValue te).run P w = .ok z w) (hz : z.cells.size = E.N) (hz1 : ∀ u ∈ z.cells.toList, u.oneCell' = true) (g o n c : Nat) (cur : Array Value) (hg : w.heap[g]? = some (.cells cur te (0, 0))) (hn : 0 < n) (hfit : o + n * E.N ≤ cur.size) :
    (Builtin.clear_ #[ts] ty #[.slice (some ⟨g, o, none⟩) n c]).run P w = .ok (.tuple #[]) (w.setRow g (splice cur.toList o (Builtin.zeroCells z.cells n).toList).toArray) := by
  have hlen : (Builtin.zeroCells z.cells n).toList.length = n * E.N := by rw [Array.length_toList, size_zeroCells, hz]
  have h1 : ∀ u ∈ (Builtin.zeroCells z.cells n).toList, u.oneCell' = true := by
    intro u hu
    simp only [Builtin.zeroCells, Array.toList_map, List.mem_map] at hu
    obtain ⟨i, _, rfl⟩ := hu
    have hp : i % z.cells.size < z.cells.size := Nat.mod_lt _ (by rw [hz]; exact E.pos)
    rw [getElem!_pos z.cells _ hp]
    exact hz1 _ (by simp)
  have hst := run_storeCells_at P g o te _ 0 cur w hg (by rw [hlen]; simpa using hfit) h1
  obtain ⟨m, rfl⟩ : ∃ m, n = m + 1 := ⟨n - 1, by omega⟩
  rw [splice, ← List.append_assoc]
  simp only [Nat.add_zero] at hst
  simp [Builtin.clear_, run_underlying T.und, hv, hst]
theorem gwl_clear (w : World) {ops : Array Oper} {rest : List Oper} {o : Oper} {a : Act} {Q : Exit → Act → World → Prop} (hgd : o.guard = none) (s : Operand) (t : TypeId)
    (ho : o.op = .call { callee := .builtin .clear, args := #[s], argTypes := #[t] }) (v : Value) (hs : a.eval s = v) {v' : Value} {w' : World}
    (hr : (Builtin.clear_ #[t] o.type #[v]).run P w = .ok v' w') (h : wpList P ops Q rest (a.put o.dst v') w') : wpList P ops Q (o :: rest) a w :=
  wpList_plain hgd fun K hK => by
    unfold Oper.wp execOp
    simp only [ho, resolve, invoke, builtin, Sem.run_bind, Sem.run_pure, Result.andThen_ok, List.map_toArray, List.map_cons, List.map_nil, hs, hr]
    exact hK _ _ h
end
end Go.Proofs.YtbmlpokkojhhjaaGreat
/- One struct of a row written whole: plain facts, whatever the struct; no program's function, no program's type. -/
namespace Go.Proofs.YtbmlpokkojhhjaaGreat
open Go.RowKit Go.Shelf
set_option linter.unusedVariables false

theorem splice_set (L : List Value) (o : Nat) (v : Value) (r : List Value) (h : o + (r.length + 1) ≤ L.length) : splice (L.set o v) (o + 1) r = splice L o (v :: r) := by
  unfold splice
  have e1 : (L.set o v).take (o + 1) = L.take o ++ [v] := by
    rw [List.take_add_one, List.getElem?_set_self (by omega), List.take_set_of_le (Nat.le_refl _)]; rfl
  have e2 : (L.set o v).drop (o + 1 + r.length) = L.drop (o + (v :: r).length) := by
    rw [List.drop_set_of_lt (by omega), List.length_cons]; congr 1; omega
  rw [e1, e2, List.append_assoc]; rfl
theorem heap_setCells (b : Nat) (t : TypeId) : ∀ (vs : List Value) (o : Nat) (w : World) (cur : Array Value), w.heap[b]? = some (.cells cur t (0, 0)) → o + vs.length ≤ cur.size → (w.setCells b o vs).heap[b]? = some (.cells (splice cur.toList o vs).toArray t (0, 0))
  | [], o, w, cur, h, _ => by
    have e : splice cur.toList o [] = cur.toList := by simp [splice]
    rw [World.setCells, h, e]
  | v :: r, o, w, cur, h, hl => by
    rw [World.setCells]
    have h1 := heap_setCell_same w b o cur t v h
    have hl' : o + (r.length + 1) ≤ cur.size := hl
    rw [heap_setCells b t r (o + 1) _ _ h1 (by rw [Array.size_setIfInBounds]; omega), Array.toList_setIfInBounds, splice_set _ _ _ _ (by rw [Array.length_toList]; exact hl')]
theorem setCells_other (b : Nat) : ∀ (vs : List Value) (o : Nat) (w : World) (k : Nat), k ≠ b → (w.setCells b o vs).heap[k]? = w.heap[k]?
  | [], _, _, _, _ => rfl
  | v :: r, o, w, k, h => by
    rw [World.setCells, setCells_other b r (o + 1) _ k h]
    exact heap_setCell_other w _ k v h
theorem fr_cells {S : Nat → Prop} {b : Nat} (h : S b) : ∀ (vs : List Value) (o : Nat) (w : World), Fr S w (w.setCells b o vs)
  | [], _, w => Fr.refl _ _
  | v :: r, o, w => by
    rw [World.setCells]
    exact (Fr.set (p := ⟨b, o, none⟩) h v).same (fr_cells h r (o + 1) _)
section
variable {α : Type} {E : Elt α}
theorem gset_flat {L : List Value} {l : List α} {x y : α} {k n : Nat} (hl : l.length = n) (hk : k < n) (hL : L.take (n * E.N) = E.flat l) (hZ : n * E.N ≤ L.length) : (splice L (k * E.N) (E.cells y)).take (n * E.N) = E.flat (l.set k y) ∧ (splice L (k * E.N) (E.cells y)).length = L.length := by
  have h0 := E.len y
  have h1 : (E.flat (l.drop (k + 1))).length = n * E.N - (k * E.N + E.N) := by rw [gl_drop hl, Nat.succ_mul]
  have h3 := gl_take (E := E) hl (Nat.le_of_lt hk)
  have hm : k * E.N + E.N ≤ n * E.N := by rw [← Nat.succ_mul]; exact Nat.mul_le_mul_right E.N hk
  have hA : L.take (k * E.N) = E.flat (l.take k) := by
    have := congrArg (List.take (k * E.N)) hL
    rw [List.take_take, gflat_take, Nat.min_eq_left (by omega)] at this
    exact this
  have hB : (L.drop (k * E.N + E.N)).take (n * E.N - (k * E.N + E.N)) = E.flat (l.drop (k + 1)) := by
    rw [← gflat_drop, ← hL, Nat.succ_mul, List.drop_take]
  have hs : l.set k y = l.take k ++ y :: l.drop (k + 1) := by
    rw [List.set_eq_take_append_cons_drop, if_pos (by omega)]
  have e4 : E.flat (l.take k ++ y :: l.drop (k + 1)) = E.flat (l.take k) ++ (E.cells y ++ E.flat (l.drop (k + 1))) := by rw [gflat_app, gflat_cons]
  rw [hs, e4]
  generalize k * E.N = a at *
  generalize n * E.N = b at *
  generalize E.N = M at *
  refine ⟨?_, length_splice _ _ _ (by rw [h0]; omega)⟩
  rw [splice, hA, h0, List.take_append, h3, List.take_of_length_le (by rw [h3]; omega), List.take_append, h0, List.take_of_length_le (l := E.cells y) (by rw [h0]; omega), show b - a - M = b - (a + M) by omega, hB]
/-- One of a row of one's own written whole. -/
theorem gown_set {te : TypeId} {w : World} {B b n c : Nat} {l : List α} (h : E.Own te w B (.slice (some ⟨b, 0, none⟩) n c) l) {k : Nat} (hk : k < l.length) (y : α) : E.Own te (w.setCells b (k * E.N) (E.cells y)) B (.slice (some ⟨b, 0, none⟩) n c) (l.set k y) := by
  obtain ⟨A', c', e1, _⟩ := gown_form h
  obtain ⟨b', c1, cur, e2, hb, hh, hn, hm, hs, ht⟩ := h.2.resolve_left (fun c => by cases c.1)
  cases e1
  cases e2
  have hct : cur.toList.length = cur.size := Array.length_toList
  have hcs : l.length * E.N ≤ cur.toList.length := by rw [hct, hs]; exact Nat.mul_le_mul_right E.N hn
  obtain ⟨r1, r2⟩ := gset_flat (E := E) (L := cur.toList) (y := y) (x := y) rfl hk ht hcs
  have hk1 : k * E.N + E.N ≤ l.length * E.N := by rw [← Nat.succ_mul]; exact Nat.mul_le_mul_right E.N hk
  refine ⟨by rw [gflat_len], .inr ⟨b, c, _, by rw [List.length_set], hb, heap_setCells b te _ _ w cur hh (by rw [E.len]; omega), by rw [List.length_set]; exact hn, hm, ?_, ?_⟩⟩
  · rw [List.size_toArray, r2, hct, hs]
  · rw [List.length_set]; exact r1
theorem gown_there {te : TypeId} {w : World} {B b n c : Nat} {l : List α} (h : E.Own te w B (.slice (some ⟨b, 0, none⟩) n c) l) {k : Nat} {x : α} (hx : l[k]? = some x) (y : α) : w.there b (k * E.N) (E.cells y).toArray.size := fun j hj => by
  have hj' : j < E.N := by rw [List.size_toArray, E.len] at hj; exact hj
  refine ⟨?_, gown_fz h _⟩
  rw [gown_at h hx hj', List.getElem?_eq_getElem (by rw [E.len]; exact hj')]
  rfl
end
end Go.Proofs.YtbmlpokkojhhjaaGreat
/- What the document's ReadCommand keeps: a command in a block of its own, read field by field; what was read is the fields of any command with that form. -/
namespace Go.Proofs.YtbmlpokkojhhjaaGreat.Wt
open Go.RowKit Go.Shelf
set_option linter.unusedVariables false
set_option linter.unusedSimpArgs false

theorem cm_tset {c c' : Cm} {i : Nat} {v : Value} (hi : i < 5) (h1 : c'.hd = c.hd) (h2 : c'.sp = c.sp) (h3 : c'.tl = c.tl.set i v) : ECm.cells c' = (ECm.cells c).set (30 + i) v := by
  have e := sp_len15 c.len
  show c'.hd ++ (c'.sp.cellL ++ c'.tl) = (c.hd ++ (c.sp.cellL ++ c.tl)).set (30 + i) v
  rw [h1, h2, h3, List.set_append_right _ _ (by show 5 ≤ 30 + i; omega), List.set_append_right _ _ (by show c.sp.cellL.length ≤ 30 + i - 5; omega)]
  congr 3
  show i = 30 + i - 5 - c.sp.cellL.length
  omega
theorem cm_hset {c c' : Cm} {i : Nat} {v : Value} (hi : i < 5) (h1 : c'.hd = c.hd.set i v) (h2 : c'.sp = c.sp) (h3 : c'.tl = c.tl) : ECm.cells c' = (ECm.cells c).set i v := by
  show c'.hd ++ (c'.sp.cellL ++ c'.tl) = (c.hd ++ (c.sp.cellL ++ c.tl)).set i v
  rw [h1, h2, h3, List.set_append_left _ _ (by show i < 5; exact hi)]
theorem cm_splice {c : Cm} {s : Sp} (hs : s.sh.length = 16) : splice (ECm.cells c) 5 s.cellL = ECm.cells { c with sp := s, len := hs } := by
  have e := sp_len15 c.len
  have e2 := sp_len15 hs
  unfold splice
  show (c.hd ++ (c.sp.cellL ++ c.tl)).take 5 ++ (s.cellL ++ (c.hd ++ (c.sp.cellL ++ c.tl)).drop (5 + s.cellL.length)) = c.hd ++ (s.cellL ++ c.tl)
  rw [e2, List.take_left' (by rfl), ← List.drop_drop, List.drop_left' (by rfl), List.drop_left' e]
/-- The reader, made by the call; the command read so far; the result's own. -/
structure Tc (w : World) (gc n0 : Nat) (A0 : Option Addr) (W : World) (c : Cm) (bs : List Int) (e : Int) : Prop where
  rq : ∃ A n k, Rr W (w.heap.size + 1) A n k bs e ∧ ∀ a, A = some a → ∃ a0, A0 = some a0 ∧ a.block = a0.block
  old : ∀ a0, A0 = some a0 → 0 < n0 → a0.block < w.heap.size
  len : bs.length ≤ n0
  new : w.heap.size + 1 < gc
  box : ECm.Bx 32 W gc c
  res : ∃ z, ECm.Bx 32 W w.heap.size z
  bel : Below w.heap.size w W
  by' : By bs
section
variable {w W W' : World} {gc n0 : Nat} {A0 : Option Addr} {c c' : Cm} {bs bs' : List Int} {e e' : Int}
theorem Tc.call (h : Tc w gc n0 A0 W c bs e) {A : Option Addr} (hA : ∀ a, A = some a → ∃ a0, A0 = some a0 ∧ a.block = a0.block) (d : Did W (w.heap.size + 1) A bs' e' W') (hl : bs'.length ≤ bs.length) (hy : By bs') : Tc w gc n0 A0 W' c bs' e' := by
  obtain ⟨⟨A', n, k, rq, hA'⟩, gr⟩ := d
  obtain ⟨z, hz⟩ := h.res
  have hn := h.new
  have keep : ∀ k x, k ≠ w.heap.size + 1 → ECm.Bx 32 W k x → ECm.Bx 32 W' k x := fun k x hk hb => (gr.block k (Array.getElem?_eq_some_iff.1 hb).1 (by simp; omega)).trans hb
  refine ⟨⟨A', n, k, rq, fun a ha => ?_⟩, h.old, Nat.le_trans hl h.len, h.new, keep gc c (by omega) h.box, ⟨z, keep _ z (by omega) hz⟩, h.bel.grown gr h.bel.size (fun j hj => by cases hj; omega), hy⟩
  obtain ⟨a1, h1, h2⟩ := hA' a ha
  obtain ⟨a0, h3, h4⟩ := hA a1 h1
  exact ⟨a0, h3, h2.trans h4⟩
theorem Tc.far (h : Tc w gc n0 A0 W c bs e) {k : Nat} (hk : w.heap.size ≤ k) (hk2 : k ≠ w.heap.size + 1) (f : ∀ j, j ≠ k → W'.heap[j]? = W.heap[j]?) : ∃ A n k, Rr W' (w.heap.size + 1) A n k bs e ∧ ∀ a, A = some a → ∃ a0, A0 = some a0 ∧ a.block = a0.block := by
  obtain ⟨⟨A, n, m, rq, hA⟩, old, len, new, box, res, bel, hy⟩ := h
  refine ⟨A, n, m, ⟨(f _ (by omega)).trans rq.b, ⟨rq.r.1, fun hn => ?_⟩, rq.nc⟩, hA⟩
  obtain ⟨b, o, e1, hc⟩ := rq.r.2 hn
  refine ⟨b, o, e1, fun i hi => ?_⟩
  obtain ⟨a0, h1, h2⟩ := hA _ e1
  have hb : b < w.heap.size := by
    have := old a0 h1 (by have := rq.r.1; omega)
    have h3 : b = a0.block := h2
    omega
  have := hc i hi
  simp only [World.cell?] at this ⊢
  rw [f b (by omega)]
  exact this
theorem Tc.put (h : Tc w gc n0 A0 W c bs e) {j : Nat} {v : Value} (eq : ECm.cells c' = (ECm.cells c).set j v) : Tc w gc n0 A0 (W.setCell ⟨gc, j, none⟩ v) c' bs e := by
  obtain ⟨z, hz⟩ := h.res
  have hn := h.new
  exact ⟨h.far (k := gc) (by omega) (by omega) (fun j' hj => heap_setCell_other _ _ _ _ hj), h.old, h.len, h.new, gbx_put h.box eq, ⟨z, (heap_setCell_other _ _ _ _ (by show w.heap.size ≠ gc; omega)).trans hz⟩, h.bel.setCell (show w.heap.size ≤ gc by omega) _, h.by'⟩
theorem Tc.putS (h : Tc w gc n0 A0 W c bs e) {s : Sp} (hs : s.sh.length = 16) : Tc w gc n0 A0 (W.setCells gc 5 s.cellL) { c with sp := s, len := hs } bs e := by
  obtain ⟨z, hz⟩ := h.res
  have hn := h.new
  have e1 := heap_setCells gc 32 s.cellL 5 W _ h.box (by rw [sp_len15 hs]; show 5 + 25 ≤ (ECm.cells c).toArray.size; rw [List.size_toArray, ECm.len]; decide)
  refine ⟨h.far (k := gc) (by omega) (by omega) (fun j' hj => setCells_other _ _ _ _ _ hj), h.old, h.len, h.new, ?_, ⟨z, (setCells_other _ _ _ _ _ (by omega)).trans hz⟩, ?_, h.by'⟩
  · unfold Elt.Bx
    rw [e1]
    show some (Obj.cells (splice (ECm.cells c) 5 s.cellL).toArray _ _) = _
    rw [cm_splice hs]
  · have f := fr_cells (S := fun k => k = gc) (b := gc) rfl s.cellL 5 W
    exact ⟨f.1.os.trans h.bel.os, f.1.tape.trans h.bel.tape, f.1.output.trans h.bel.output, Nat.le_trans h.bel.size f.1.size, fun i hi => (setCells_other _ _ _ _ _ (by omega)).trans (h.bel.block i hi)⟩
theorem Tc.below (h : Tc w gc n0 A0 W c bs e) (q : Below W.heap.size W W') : Tc w gc n0 A0 W' c bs e := by
  obtain ⟨A, n, k, rq, hA⟩ := h.rq
  exact h.call hA ⟨⟨A, n, k, rq.below q, like_self _⟩, below_grown q _⟩ (Nat.le_refl _) h.by'
theorem Tc.ha (h : Tc w gc n0 A0 W c bs e) {A : Option Addr} {n : Nat} (hn : bs.length = n) (hA : ∀ a, A = some a → ∃ a0, A0 = some a0 ∧ a.block = a0.block) : ∀ a, A = some a → 0 < n → a.block < W.heap.size := fun a ha h0 => by
  obtain ⟨a0, h1, h2⟩ := hA a ha
  have := h.old a0 h1 (by have := h.len; omega)
  have := h.bel.size
  omega
theorem Tc.there (h : Tc w gc n0 A0 W c bs e) : W.there gc 5 25 := fun j hj => by
  refine ⟨?_, gbx_fz h.box _⟩
  rw [gbx_cell h.box, List.getElem?_eq_getElem (by rw [ECm.len]; show 5 + j < 35; omega)]
  rfl
end
section
variable {ops : Array Oper} {rest : List Oper} {a : Act} {w : World} {Q : Exit → Act → World → Prop} {d : Option Nat} {x y : Operand} {ty : TypeId} {ps : String} {af : Array Edge}
theorem wl_stsp15 {s : Sp} (hs : s.sh.length = 16) {b : Nat} (hb : w.there b 5 25) (hx : a.eval x = .pointer (some ⟨b, 5, none⟩)) (hy : a.eval y = .agg s.cells)
    (h : wpList Tryz.prog ops Q rest (a.put d undef) (w.setCells b 5 s.cellL)) : wpList Tryz.prog ops Q (⟨d, .store 29 x y, ty, ps, af, none⟩ :: rest) a w :=
  wpList_store_mid rfl 29 x y rfl b 5 s.cells hx hy (by rw [Sp.size hs]; exact hb) (by rw [info_sp, Sp.size hs]) s.one (by exact h)
end
/-- What was read so far, of any command with these bytes for its form. -/
def PC (bs0 : List Int) (c : Cm) (b : List Int) (e : Int) (k : Nat) : Prop := ∀ d, IsC bs0 d → e = 0 ∧ c.kd = d.kd ∧ b = ((flds d.kd).drop k).flatMap (fF d) ∧ (∀ i, i ∈ (flds d.kd).take k → eqF15 c d i) ∧ (∀ i, i < 10 → i ∉ (flds d.kd).take k → noF c i)
theorem PC.step {bs0 : List Int} {c c' : Cm} {b b' : List Int} {e e' : Int} {k i : Nat} (h : PC bs0 c b e k) (hi : (flds c.kd)[k]? = some i) (hkd : c'.kd = c.kd) (h1 : ∀ j, j < 10 → j ≠ i → ∀ d, eqF15 c d j → eqF15 c' d j) (h2 : ∀ j, j < 10 → j ≠ i → noF c j → noF c' j)
    (hr : ∀ d r, d.ok → (i = 4 → mayB d.sp = true) → e = 0 → b = fF d i ++ r → b' = r ∧ e' = 0 ∧ eqF15 c' d i) : PC bs0 c' b' e' (k + 1) := fun d hd => by
  obtain ⟨a1, a2, a3, a4, a5⟩ := h d hd
  rw [a2] at hi
  have hk := (List.getElem?_eq_some_iff.1 hi).1
  have tk : (flds d.kd).take (k + 1) = (flds d.kd).take k ++ [i] := by rw [List.take_add_one, hi]; rfl
  have dr : (flds d.kd).drop k = i :: (flds d.kd).drop (k + 1) := by
    rw [List.getElem?_eq_getElem hk] at hi
    cases hi
    rw [List.getElem_cons_drop]
  rw [dr, List.flatMap_cons] at a3
  obtain ⟨b1, b2, b3⟩ := hr d _ hd.1 (fun e4 => hd.2.1.sp (by rw [← e4]; exact List.mem_of_getElem? hi)) a1 a3
  refine ⟨b2, hkd.trans a2, b1, fun j hj => ?_, fun j hj hn => ?_⟩
  · by_cases ej : j = i
    · rw [ej]; exact b3
    · rw [tk] at hj
      rcases List.mem_append.1 hj with m | m
      · exact h1 j (flds_lt _ j (List.mem_of_mem_take m)) ej d (a4 j m)
      · exact absurd (List.mem_singleton.1 m) ej
  · rw [tk] at hn
    have ej : j ≠ i := fun e => hn (List.mem_append.2 (.inr (by rw [e]; exact List.mem_singleton.2 rfl)))
    exact h2 j hj ej (a5 j hj fun m => hn (List.mem_append.2 (.inl m)))
theorem PC.all {bs0 : List Int} {c : Cm} {b : List Int} {e : Int} {k : Nat} (h : PC bs0 c b e k) (hk : k = (flds c.kd).length) {d : Cm} (hd : IsC bs0 d) : e = 0 ∧ b = [] ∧ c = d := by
  obtain ⟨a1, a2, a3, a4, a5⟩ := h d hd
  rw [a2] at hk
  subst hk
  rw [List.drop_length] at a3
  rw [List.take_length] at a4 a5
  exact ⟨a1, a3, cm_eq a2 fun i hi => by
    by_cases m : i ∈ flds d.kd
    · exact a4 i m
    · exact eq_of_no i hi (a5 i hi m) (hd.2.1.no i hi m)⟩
theorem PC.start {bs0 : List Int} (hy : By bs0) {v : Int} {b : List Int} {e : Int} (hr : sR bs0 0 14 = (v, b, e)) {c : Cm} (hc : c.kd = v) (h0 : ∀ i, i < 10 → noF c i) : PC bs0 c b e 0 := fun d hd => by
  have k := hd.2.1.kd
  have f := hd.2.2
  unfold formC at f
  have q := sR_form (n := d.kd.toNat) (by omega) (most := 14) (by omega) ((flds d.kd).flatMap (fF d))
  rw [f, hr] at q
  simp only [Prod.mk.injEq] at q
  exact ⟨q.2.2, by omega, q.2.1, fun i hi => by simp at hi, fun i hi _ => h0 i hi⟩
end Go.Proofs.YtbmlpokkojhhjaaGreat.Wt
