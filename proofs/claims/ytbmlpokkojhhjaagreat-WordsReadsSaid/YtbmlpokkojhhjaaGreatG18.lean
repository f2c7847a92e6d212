/- The program's words: a part's three functions: a field written, read, carried over (by genWfc.py). -/
import Derived.Deep.RegionHeld
import Derived.Deep.MidRow
import Derived.Test.YtbmlpokkojhhjaaGreatG15
import Derived.Test.YtbmlpokkojhhjaaGreatG17
import Derived.Test.YtbmlpokkojhhjaaGreatG11
namespace Go.Proofs.YtbmlpokkojhhjaaGreat.Wz
open Go.RowKit
set_option linter.unusedVariables false
set_option linter.unusedSimpArgs false

/-- A command being read: its reader, its box, all newer than what was there. -/
structure Tq (B : Nat) (w : World) (g gc : Nat) (W : World) (c : Cm) (bs : List Int) (e : Int) : Prop where
  rq : ∃ A n k, Rq W g A n k bs e ∧ ∀ a, A = some a → a.block < gc
  box : ECm.Bx 32 W gc c
  lt : g < gc
  ge : B ≤ g
  bel : Below B w W
  by' : By bs
  len : bs.length ≤ 100000
section
variable {w W W' : World} {B g gc : Nat} {c c' : Cm} {bs bs' : List Int} {e e' : Int}
theorem Tq.size (h : Tq B w g gc W c bs e) : gc < W.heap.size := (Array.getElem?_eq_some_iff.1 h.box).1
theorem Tq.call (h : Tq B w g gc W c bs e) {A : Option Addr} (hA : ∀ a, A = some a → a.block < gc) (d : Dd W g A bs' e' W') (hy : By bs') (hl : bs'.length ≤ bs.length) : Tq B w g gc W' c bs' e' := by
  obtain ⟨⟨A', n, k, rq, hA'⟩, gr⟩ := d
  have hlt := h.lt
  refine ⟨⟨A', n, k, rq, fun a ha => ?_⟩, ?_, h.lt, h.ge, h.bel.grown gr (by have := h.size; have := h.ge; omega) (fun j hj => by cases hj; exact h.ge), hy, Nat.le_trans hl h.len⟩
  · obtain ⟨a1, h1, h2⟩ := hA' a ha
    rw [h2]
    exact hA a1 h1
  · exact (gr.block gc h.size (by simp; omega)).trans h.box
theorem Tq.far (h : Tq B w g gc W c bs e) (f : ∀ j, j ≠ gc → W'.heap[j]? = W.heap[j]?) : ∃ A n k, Rq W' g A n k bs e ∧ ∀ a, A = some a → a.block < gc := by
  obtain ⟨A, n, k, rq, hA⟩ := h.rq
  have hlt := h.lt
  refine ⟨A, n, k, ⟨(f _ (by omega)).trans rq.b, ⟨rq.r.1, fun hn => ?_⟩, rq.nc⟩, hA⟩
  obtain ⟨b, o, e1, hc⟩ := rq.r.2 hn
  refine ⟨b, o, e1, fun i hi => ?_⟩
  have hb : b < gc := hA _ e1
  have := hc i hi
  simp only [World.cell?] at this ⊢
  rw [f b (by omega)]
  exact this
theorem Tq.put (h : Tq B w g gc W c bs e) {j : Nat} {v : Value} (eq : ECm.cells c' = (ECm.cells c).set j v) : Tq B w g gc (W.setCell ⟨gc, j, none⟩ v) c' bs e := by
  have h1 := h.lt
  have h2 := h.ge
  exact ⟨h.far fun j' hj => heap_setCell_other _ _ _ _ hj, gbx_put h.box eq, h.lt, h.ge, h.bel.setCell (show B ≤ gc by omega) _, h.by', h.len⟩
theorem Tq.putS (h : Tq B w g gc W c bs e) {s : Sp} (hs : s.sh.length = 16) : Tq B w g gc (W.setCells gc 5 s.cellL) { c with sp := s, len := hs } bs e := by
  have h1 := h.lt
  have h2 := h.ge
  have e1 := heap_setCells gc 32 s.cellL 5 W _ h.box (by rw [sp_len15 hs]; show 5 + 25 ≤ (ECm.cells c).toArray.size; rw [List.size_toArray, ECm.len]; decide)
  refine ⟨h.far fun j' hj => setCells_other _ _ _ _ _ hj, ?_, h.lt, h.ge, ?_, h.by', h.len⟩
  · unfold Elt.Bx
    rw [e1]
    show some (Obj.cells (splice (ECm.cells c) 5 s.cellL).toArray _ _) = _
    rw [Wt.cm_splice hs]
  · have f := fr_cells (S := fun k => k = gc) (b := gc) rfl s.cellL 5 W
    exact ⟨f.1.os.trans h.bel.os, f.1.tape.trans h.bel.tape, f.1.output.trans h.bel.output, Nat.le_trans h.bel.size f.1.size, fun i hi => (setCells_other _ _ _ _ _ (by omega)).trans (h.bel.block i hi)⟩
theorem Tq.below (h : Tq B w g gc W c bs e) (q : Below W.heap.size W W') : Tq B w g gc W' c bs e := by
  obtain ⟨A, n, k, rq, hA⟩ := h.rq
  exact h.call hA ⟨⟨A, n, k, rq.below q, same_block A⟩, below_grown q _⟩ h.by' (Nat.le_refl _)
end
theorem there15 {W : World} {gc : Nat} {c : Cm} (h : ECm.Bx 32 W gc c) : W.there gc 5 25 := fun j hj => by
  refine ⟨?_, gbx_fz h _⟩
  rw [gbx_cell h, List.getElem?_eq_getElem (by rw [ECm.len]; show 5 + j < 35; omega)]
  rfl
theorem sp_rng15 {W : World} {gc : Nat} {c : Cm} (h : ECm.Bx 32 W gc c) : W.rangeAt gc 5 c.sp.cellL := fun j u hj => by
  have hl := (List.getElem?_eq_some_iff.1 hj).1
  rw [sp_len15 c.len] at hl
  rw [gbx_cell h, cm_sp c hl]
  exact hj
theorem bx_keep {W W' : World} {n p u k : Nat} (h : Bxs W n p u k) (f : ∀ j, n ≤ j → j ≤ n + 2 → W'.heap[j]? = W.heap[j]?) : Bxs W' n p u k :=
  ⟨by rw [← h.p]; unfold World.cell?; rw [f n (by omega) (by omega)], by rw [← h.u]; unfold World.cell?; rw [f (n + 1) (by omega) (by omega)], by rw [← h.k]; unfold World.cell?; rw [f (n + 2) (by omega) (by omega)]⟩
/-- A command's box in which a field is written. -/
theorem carry_set {W : World} {gc : Nat} {c c' : Cm} (h : ECm.Bx 32 W gc c) {j : Nat} {v : Value} (eq : ECm.cells c' = (ECm.cells c).set j v) : ECm.Bx 32 (W.setCell ⟨gc, j, none⟩ v) gc c' ∧ Below gc W (W.setCell ⟨gc, j, none⟩ v) ∧ ∀ j', j' ≠ gc → (W.setCell ⟨gc, j, none⟩ v).heap[j']? = W.heap[j']? :=
  ⟨gbx_put h eq, (Below.refl gc W).setCell (show gc ≤ (⟨gc, j, none⟩ : Addr).block from Nat.le_refl gc) v, fun j' hj => heap_setCell_other _ _ _ _ hj⟩
theorem carry_setS {W : World} {gc : Nat} {c : Cm} (h : ECm.Bx 32 W gc c) {s : Sp} (hs : s.sh.length = 16) : ECm.Bx 32 (W.setCells gc 5 s.cellL) gc { c with sp := s, len := hs } ∧ Below gc W (W.setCells gc 5 s.cellL) ∧ ∀ j', j' ≠ gc → (W.setCells gc 5 s.cellL).heap[j']? = W.heap[j']? := by
  have e1 := heap_setCells gc 32 s.cellL 5 W _ h (by rw [sp_len15 hs]; show 5 + 25 ≤ (ECm.cells c).toArray.size; rw [List.size_toArray, ECm.len]; decide)
  refine ⟨?_, ?_, fun j' hj => setCells_other _ _ _ _ _ hj⟩
  · unfold Elt.Bx
    rw [e1]
    show some (Obj.cells (splice (ECm.cells c) 5 s.cellL).toArray _ _) = _
    rw [Wt.cm_splice hs]
  · have f := fr_cells (S := fun k => k = gc) (b := gc) rfl s.cellL 5 W
    exact ⟨f.1.os, f.1.tape, f.1.output, f.1.size, fun i hi => setCells_other _ _ _ _ _ (by omega)⟩
set_option maxRecDepth 100000 in
set_option maxHeartbeats 8000000 in
theorem wr0 {n : Nat} (A : Option Addr) (k : Nat) (bs : List Int) (cm : Cm) (W : World) (hB : Bxs W n 47 44 35) (hn : n + 2 < W.heap.size) (hr : RdB W A bs.length bs) (h0 : A = none → bs.length = 0 ∧ k = 0) (hl : bs.length ≤ 100000) (ok : cm.ok) :
    Calls Tryz.prog 84 #[.slice A bs.length k, .agg (ECm.cells cm).toArray, bx (n + 1), bx n] W (PutOk W (bs ++ fF cm 0)) := by
  obtain ⟨W1, hW1⟩ : ∃ U, W.alloc (.cells (ECm.cells cm).toArray 32) = U := ⟨_, rfl⟩
  obtain ⟨g, hg⟩ : ∃ g, W.heap.size = g := ⟨_, rfl⟩
  have b1 : Below W.heap.size W W1 := by rw [← hW1]; exact below_new _ _
  have x1 : ECm.Bx 32 W1 g cm := by rw [← hW1, ← hg]; exact gbx_new W _
  have hs := b1.size
  have KP := Lib.hid fun (U : World) (b : Below W1.heap.size W1 U) => ((hB.below b1 hn).below b (by omega)).p
  have KU := Lib.hid fun (U : World) (b : Below W1.heap.size W1 U) => ((hB.below b1 hn).below b (by omega)).u
  have PL := Lib.hid fun U => place0 g U
  have CV := Lib.hid fun (U : World) (b : Below W1.heap.size W1 U) => (show U.cell? ⟨g, 1, none⟩ = some (.int .u32 cm.ac) from (gbx_cell (gbx_below x1 b) 1).trans ((cm_hd cm (i := 1) (by omega)).trans rfl))
  have ex : ((cm.ac.toNat : Nat) : Int) = cm.ac := Int.toNat_of_nonneg ok.ac.1
  have PUT := Lib.hid fun (U : World) (b : Below W1.heap.size W1 U) => (show Calls Tryz.prog 44 #[.slice A bs.length k, .int .u32 cm.ac] U (PutOk U (bs ++ fF cm 0)) from by
    have C := puts32 A k bs cm.ac.toNat U ((hr.below b1).below b) h0 (by omega) (by have := ok.ac; omega)
    rw [ex] at C
    exact C.mono fun E W' h => putok_made h)
  have HW1 := Lib.hid hW1
  have HG := Lib.hid hg
  have HB1 := Lib.hid b1
  clear hB hr h0 ok b1 x1 hs hW1 ex
  obtain ⟨L, hL⟩ : ∃ L, bs.length = L := ⟨_, rfl⟩
  rw [hL] at PUT ⊢
  clear hL hl
  unfold fv at KP KU
  unfold bx
  go_enter Tryz.func84, Tryz.ntmps84
  go_wp2_with fail
  rw [HW1.out]
  try rw [HG.out]
  refine wp_region_held_drew (S := fun U => Below W1.heap.size W1 U) (by kernel_rfl) (Below.refl _ _).drew (fun hH => ?_)
  refine wpAnyH_take (i := 0) (v := .func (.func 44) #[] #[]) rfl (by kernel_rfl) (by kernel_rfl) (by kernel_rfl) (fun _ _ _ h => h) (.inl ⟨by rfl, ?_⟩) (by assumption) ?_
  · intro W hW; have k0 := KU.out W hW; go_simp
  try simp only [List.getElem_toArray, List.getElem_cons_zero, Act.put, List.setIfInBounds_toArray, List.set_cons_zero, List.set_cons_succ]
  refine wpAnyH_take (i := 1) (v := .slice A L k) rfl (by kernel_rfl) (by kernel_rfl) (by kernel_rfl) (fun _ _ _ h => h) (.inl ⟨by rfl, ?_⟩) (by assumption) ?_
  · intro W hW; go_simp
  try simp only [List.getElem_toArray, List.getElem_cons_zero, List.getElem_cons_succ, Act.put, List.setIfInBounds_toArray, List.set_cons_zero, List.set_cons_succ]
  refine wpAnyH_take (i := 2) (v := .func (.func 47) #[] #[]) rfl (by kernel_rfl) (by kernel_rfl) (by kernel_rfl) (fun _ _ _ h => h) (.inl ⟨by rfl, ?_⟩) (by assumption) ?_
  · intro W hW; have k0 := KP.out W hW; go_simp
  try simp only [List.getElem_toArray, List.getElem_cons_zero, List.getElem_cons_succ, Act.put, List.setIfInBounds_toArray, List.set_cons_zero, List.set_cons_succ]
  refine wpAnyH_ready (rs := [3]) (by decide +kernel) (by simp) (AllReadyH.cons rfl (fun KQ hK => ?_) AllReadyH.nil)
  go_simp
  refine (PL.out _).mono ?_; rintro e0 Wa ⟨rfl, rfl⟩
  refine hK.out _ _ hH (fun _ => ?_)
  clear hK
  try simp only [List.setIfInBounds_toArray, List.set_cons_zero, List.set_cons_succ]
  refine wpAnyH_take (i := 4) (v := .pointer (some ⟨g, 1, none⟩)) rfl (by kernel_rfl) (by kernel_rfl) (by kernel_rfl) (fun _ _ _ h => h) (.inl ⟨by rfl, ?_⟩) (by assumption) ?_
  · intro W hW; go_simp
  try simp only [List.getElem_toArray, List.getElem_cons_zero, List.getElem_cons_succ, Act.put, List.setIfInBounds_toArray, List.set_cons_zero, List.set_cons_succ]
  refine wpAnyH_take (i := 5) (v := .int .u32 cm.ac) rfl (by kernel_rfl) (by kernel_rfl) (by kernel_rfl) (fun _ _ _ h => h) (.inl ⟨by rfl, ?_⟩) (by assumption) ?_
  · intro W hW; have k0 := CV.out W hW; go_simp
  try simp only [List.getElem_toArray, List.getElem_cons_zero, List.getElem_cons_succ, Act.put, List.setIfInBounds_toArray, List.set_cons_zero, List.set_cons_succ]
  refine wpAnyH_ready (rs := [6]) (by decide +kernel) (by simp) (AllReadyH.cons rfl (fun KQ hK => ?_) AllReadyH.nil)
  go_simp
  refine (PUT.out _ hH).mono ?_; rintro e0 Wb ⟨A', c', rfl, r, q⟩
  have hH := hH.trans (q.mono hH.size)
  obtain ⟨m, hm9⟩ : ∃ m, (bs ++ fF cm 0).length = m := ⟨_, rfl⟩
  rw [hm9] at r ⊢
  have R := Lib.hid r
  have HM := Lib.hid hm9
  clear q r hm9
  refine hK.out _ _ hH (fun _ => ?_)
  clear hK
  try simp only [List.setIfInBounds_toArray, List.set_cons_zero, List.set_cons_succ]
  refine wpAnyH_ready (rs := [7]) (by decide +kernel) (by simp) (AllReadyH.cons rfl (fun KQ hK => ?_) AllReadyH.nil)
  go_simp
  refine hK.out _ _ hH (fun _ => ?_)
  clear hK
  try simp only [List.setIfInBounds_toArray, List.set_cons_zero, List.set_cons_succ]
  refine wpAnyH_done (by decide +kernel) ?_ _
  have Q := Lib.hid (HB1.out.trans (hH.mono HB1.out.size))
  clear hH
  go_wp2_with fail
  go_ret
  unfold PutOk
  rw [HM.out]
  exact ⟨A', c', rfl, R.out, Q.out⟩
set_option maxRecDepth 100000 in
set_option maxHeartbeats 8000000 in
theorem wr1 {n : Nat} (A : Option Addr) (k : Nat) (bs : List Int) (cm : Cm) (W : World) (hB : Bxs W n 48 44 35) (hn : n + 2 < W.heap.size) (hr : RdB W A bs.length bs) (h0 : A = none → bs.length = 0 ∧ k = 0) (hl : bs.length ≤ 100000) (ok : cm.ok) :
    Calls Tryz.prog 84 #[.slice A bs.length k, .agg (ECm.cells cm).toArray, bx (n + 1), bx n] W (PutOk W (bs ++ fF cm 1)) := by
  obtain ⟨W1, hW1⟩ : ∃ U, W.alloc (.cells (ECm.cells cm).toArray 32) = U := ⟨_, rfl⟩
  obtain ⟨g, hg⟩ : ∃ g, W.heap.size = g := ⟨_, rfl⟩
  have b1 : Below W.heap.size W W1 := by rw [← hW1]; exact below_new _ _
  have x1 : ECm.Bx 32 W1 g cm := by rw [← hW1, ← hg]; exact gbx_new W _
  have hs := b1.size
  have KP := Lib.hid fun (U : World) (b : Below W1.heap.size W1 U) => ((hB.below b1 hn).below b (by omega)).p
  have KU := Lib.hid fun (U : World) (b : Below W1.heap.size W1 U) => ((hB.below b1 hn).below b (by omega)).u
  have PL := Lib.hid fun U => place1 g U
  have CV := Lib.hid fun (U : World) (b : Below W1.heap.size W1 U) => (show U.cell? ⟨g, 2, none⟩ = some (.int .u32 cm.ct) from (gbx_cell (gbx_below x1 b) 2).trans ((cm_hd cm (i := 2) (by omega)).trans rfl))
  have ex : ((cm.ct.toNat : Nat) : Int) = cm.ct := Int.toNat_of_nonneg ok.ct.1
  have PUT := Lib.hid fun (U : World) (b : Below W1.heap.size W1 U) => (show Calls Tryz.prog 44 #[.slice A bs.length k, .int .u32 cm.ct] U (PutOk U (bs ++ fF cm 1)) from by
    have C := puts32 A k bs cm.ct.toNat U ((hr.below b1).below b) h0 (by omega) (by have := ok.ct; omega)
    rw [ex] at C
    exact C.mono fun E W' h => putok_made h)
  have HW1 := Lib.hid hW1
  have HG := Lib.hid hg
  have HB1 := Lib.hid b1
  clear hB hr h0 ok b1 x1 hs hW1 ex
  obtain ⟨L, hL⟩ : ∃ L, bs.length = L := ⟨_, rfl⟩
  rw [hL] at PUT ⊢
  clear hL hl
  unfold fv at KP KU
  unfold bx
  go_enter Tryz.func84, Tryz.ntmps84
  go_wp2_with fail
  rw [HW1.out]
  try rw [HG.out]
  refine wp_region_held_drew (S := fun U => Below W1.heap.size W1 U) (by kernel_rfl) (Below.refl _ _).drew (fun hH => ?_)
  refine wpAnyH_take (i := 0) (v := .func (.func 44) #[] #[]) rfl (by kernel_rfl) (by kernel_rfl) (by kernel_rfl) (fun _ _ _ h => h) (.inl ⟨by rfl, ?_⟩) (by assumption) ?_
  · intro W hW; have k0 := KU.out W hW; go_simp
  try simp only [List.getElem_toArray, List.getElem_cons_zero, Act.put, List.setIfInBounds_toArray, List.set_cons_zero, List.set_cons_succ]
  refine wpAnyH_take (i := 1) (v := .slice A L k) rfl (by kernel_rfl) (by kernel_rfl) (by kernel_rfl) (fun _ _ _ h => h) (.inl ⟨by rfl, ?_⟩) (by assumption) ?_
  · intro W hW; go_simp
  try simp only [List.getElem_toArray, List.getElem_cons_zero, List.getElem_cons_succ, Act.put, List.setIfInBounds_toArray, List.set_cons_zero, List.set_cons_succ]
  refine wpAnyH_take (i := 2) (v := .func (.func 48) #[] #[]) rfl (by kernel_rfl) (by kernel_rfl) (by kernel_rfl) (fun _ _ _ h => h) (.inl ⟨by rfl, ?_⟩) (by assumption) ?_
  · intro W hW; have k0 := KP.out W hW; go_simp
  try simp only [List.getElem_toArray, List.getElem_cons_zero, List.getElem_cons_succ, Act.put, List.setIfInBounds_toArray, List.set_cons_zero, List.set_cons_succ]
  refine wpAnyH_ready (rs := [3]) (by decide +kernel) (by simp) (AllReadyH.cons rfl (fun KQ hK => ?_) AllReadyH.nil)
  go_simp
  refine (PL.out _).mono ?_; rintro e0 Wa ⟨rfl, rfl⟩
  refine hK.out _ _ hH (fun _ => ?_)
  clear hK
  try simp only [List.setIfInBounds_toArray, List.set_cons_zero, List.set_cons_succ]
  refine wpAnyH_take (i := 4) (v := .pointer (some ⟨g, 2, none⟩)) rfl (by kernel_rfl) (by kernel_rfl) (by kernel_rfl) (fun _ _ _ h => h) (.inl ⟨by rfl, ?_⟩) (by assumption) ?_
  · intro W hW; go_simp
  try simp only [List.getElem_toArray, List.getElem_cons_zero, List.getElem_cons_succ, Act.put, List.setIfInBounds_toArray, List.set_cons_zero, List.set_cons_succ]
  refine wpAnyH_take (i := 5) (v := .int .u32 cm.ct) rfl (by kernel_rfl) (by kernel_rfl) (by kernel_rfl) (fun _ _ _ h => h) (.inl ⟨by rfl, ?_⟩) (by assumption) ?_
  · intro W hW; have k0 := CV.out W hW; go_simp
  try simp only [List.getElem_toArray, List.getElem_cons_zero, List.getElem_cons_succ, Act.put, List.setIfInBounds_toArray, List.set_cons_zero, List.set_cons_succ]
  refine wpAnyH_ready (rs := [6]) (by decide +kernel) (by simp) (AllReadyH.cons rfl (fun KQ hK => ?_) AllReadyH.nil)
  go_simp
  refine (PUT.out _ hH).mono ?_; rintro e0 Wb ⟨A', c', rfl, r, q⟩
  have hH := hH.trans (q.mono hH.size)
  obtain ⟨m, hm9⟩ : ∃ m, (bs ++ fF cm 1).length = m := ⟨_, rfl⟩
  rw [hm9] at r ⊢
  have R := Lib.hid r
  have HM := Lib.hid hm9
  clear q r hm9
  refine hK.out _ _ hH (fun _ => ?_)
  clear hK
  try simp only [List.setIfInBounds_toArray, List.set_cons_zero, List.set_cons_succ]
  refine wpAnyH_ready (rs := [7]) (by decide +kernel) (by simp) (AllReadyH.cons rfl (fun KQ hK => ?_) AllReadyH.nil)
  go_simp
  refine hK.out _ _ hH (fun _ => ?_)
  clear hK
  try simp only [List.setIfInBounds_toArray, List.set_cons_zero, List.set_cons_succ]
  refine wpAnyH_done (by decide +kernel) ?_ _
  have Q := Lib.hid (HB1.out.trans (hH.mono HB1.out.size))
  clear hH
  go_wp2_with fail
  go_ret
  unfold PutOk
  rw [HM.out]
  exact ⟨A', c', rfl, R.out, Q.out⟩
set_option maxRecDepth 100000 in
set_option maxHeartbeats 8000000 in
theorem wr2 {n : Nat} (A : Option Addr) (k : Nat) (bs : List Int) (cm : Cm) (W : World) (hB : Bxs W n 50 38 27) (hn : n + 2 < W.heap.size) (hr : RdB W A bs.length bs) (h0 : A = none → bs.length = 0 ∧ k = 0) (hl : bs.length ≤ 100000) (ok : cm.ok) :
    Calls Tryz.prog 87 #[.slice A bs.length k, .agg (ECm.cells cm).toArray, bx (n + 1), bx n] W (PutOk W (bs ++ fF cm 2)) := by
  obtain ⟨W1, hW1⟩ : ∃ U, W.alloc (.cells (ECm.cells cm).toArray 32) = U := ⟨_, rfl⟩
  obtain ⟨g, hg⟩ : ∃ g, W.heap.size = g := ⟨_, rfl⟩
  have b1 : Below W.heap.size W W1 := by rw [← hW1]; exact below_new _ _
  have x1 : ECm.Bx 32 W1 g cm := by rw [← hW1, ← hg]; exact gbx_new W _
  have hs := b1.size
  have KP := Lib.hid fun (U : World) (b : Below W1.heap.size W1 U) => ((hB.below b1 hn).below b (by omega)).p
  have KU := Lib.hid fun (U : World) (b : Below W1.heap.size W1 U) => ((hB.below b1 hn).below b (by omega)).u
  have PL := Lib.hid fun U => place2 g U
  have CV := Lib.hid fun (U : World) (b : Below W1.heap.size W1 U) => (show U.cell? ⟨g, 3, none⟩ = some (.int .u64 cm.nu) from (gbx_cell (gbx_below x1 b) 3).trans ((cm_hd cm (i := 3) (by omega)).trans rfl))
  have ex : ((cm.nu.toNat : Nat) : Int) = cm.nu := Int.toNat_of_nonneg ok.nu.1
  have PUT := Lib.hid fun (U : World) (b : Below W1.heap.size W1 U) => (show Calls Tryz.prog 38 #[.slice A bs.length k, .int .u64 cm.nu] U (PutOk U (bs ++ fF cm 2)) from by
    have C := wnat15 A k bs cm.nu.toNat U ((hr.below b1).below b) h0 (by omega) (by have := ok.nu; omega)
    rw [ex] at C
    exact C.mono fun E W' h => putok_made h)
  have HW1 := Lib.hid hW1
  have HG := Lib.hid hg
  have HB1 := Lib.hid b1
  clear hB hr h0 ok b1 x1 hs hW1 ex
  obtain ⟨L, hL⟩ : ∃ L, bs.length = L := ⟨_, rfl⟩
  rw [hL] at PUT ⊢
  clear hL hl
  unfold fv at KP KU
  unfold bx
  go_enter Tryz.func87, Tryz.ntmps87
  go_wp2_with fail
  rw [HW1.out]
  try rw [HG.out]
  refine wp_region_held_drew (S := fun U => Below W1.heap.size W1 U) (by kernel_rfl) (Below.refl _ _).drew (fun hH => ?_)
  refine wpAnyH_take (i := 0) (v := .func (.func 38) #[] #[]) rfl (by kernel_rfl) (by kernel_rfl) (by kernel_rfl) (fun _ _ _ h => h) (.inl ⟨by rfl, ?_⟩) (by assumption) ?_
  · intro W hW; have k0 := KU.out W hW; go_simp
  try simp only [List.getElem_toArray, List.getElem_cons_zero, Act.put, List.setIfInBounds_toArray, List.set_cons_zero, List.set_cons_succ]
  refine wpAnyH_take (i := 1) (v := .slice A L k) rfl (by kernel_rfl) (by kernel_rfl) (by kernel_rfl) (fun _ _ _ h => h) (.inl ⟨by rfl, ?_⟩) (by assumption) ?_
  · intro W hW; go_simp
  try simp only [List.getElem_toArray, List.getElem_cons_zero, List.getElem_cons_succ, Act.put, List.setIfInBounds_toArray, List.set_cons_zero, List.set_cons_succ]
  refine wpAnyH_take (i := 2) (v := .func (.func 50) #[] #[]) rfl (by kernel_rfl) (by kernel_rfl) (by kernel_rfl) (fun _ _ _ h => h) (.inl ⟨by rfl, ?_⟩) (by assumption) ?_
  · intro W hW; have k0 := KP.out W hW; go_simp
  try simp only [List.getElem_toArray, List.getElem_cons_zero, List.getElem_cons_succ, Act.put, List.setIfInBounds_toArray, List.set_cons_zero, List.set_cons_succ]
  refine wpAnyH_ready (rs := [3]) (by decide +kernel) (by simp) (AllReadyH.cons rfl (fun KQ hK => ?_) AllReadyH.nil)
  go_simp
  refine (PL.out _).mono ?_; rintro e0 Wa ⟨rfl, rfl⟩
  refine hK.out _ _ hH (fun _ => ?_)
  clear hK
  try simp only [List.setIfInBounds_toArray, List.set_cons_zero, List.set_cons_succ]
  refine wpAnyH_take (i := 4) (v := .pointer (some ⟨g, 3, none⟩)) rfl (by kernel_rfl) (by kernel_rfl) (by kernel_rfl) (fun _ _ _ h => h) (.inl ⟨by rfl, ?_⟩) (by assumption) ?_
  · intro W hW; go_simp
  try simp only [List.getElem_toArray, List.getElem_cons_zero, List.getElem_cons_succ, Act.put, List.setIfInBounds_toArray, List.set_cons_zero, List.set_cons_succ]
  refine wpAnyH_take (i := 5) (v := .int .u64 cm.nu) rfl (by kernel_rfl) (by kernel_rfl) (by kernel_rfl) (fun _ _ _ h => h) (.inl ⟨by rfl, ?_⟩) (by assumption) ?_
  · intro W hW; have k0 := CV.out W hW; go_simp
  try simp only [List.getElem_toArray, List.getElem_cons_zero, List.getElem_cons_succ, Act.put, List.setIfInBounds_toArray, List.set_cons_zero, List.set_cons_succ]
  refine wpAnyH_ready (rs := [6]) (by decide +kernel) (by simp) (AllReadyH.cons rfl (fun KQ hK => ?_) AllReadyH.nil)
  go_simp
  refine (PUT.out _ hH).mono ?_; rintro e0 Wb ⟨A', c', rfl, r, q⟩
  have hH := hH.trans (q.mono hH.size)
  obtain ⟨m, hm9⟩ : ∃ m, (bs ++ fF cm 2).length = m := ⟨_, rfl⟩
  rw [hm9] at r ⊢
  have R := Lib.hid r
  have HM := Lib.hid hm9
  clear q r hm9
  refine hK.out _ _ hH (fun _ => ?_)
  clear hK
  try simp only [List.setIfInBounds_toArray, List.set_cons_zero, List.set_cons_succ]
  refine wpAnyH_ready (rs := [7]) (by decide +kernel) (by simp) (AllReadyH.cons rfl (fun KQ hK => ?_) AllReadyH.nil)
  go_simp
  refine hK.out _ _ hH (fun _ => ?_)
  clear hK
  try simp only [List.setIfInBounds_toArray, List.set_cons_zero, List.set_cons_succ]
  refine wpAnyH_done (by decide +kernel) ?_ _
  have Q := Lib.hid (HB1.out.trans (hH.mono HB1.out.size))
  clear hH
  go_wp2_with fail
  go_ret
  unfold PutOk
  rw [HM.out]
  exact ⟨A', c', rfl, R.out, Q.out⟩
set_option maxRecDepth 100000 in
set_option maxHeartbeats 8000000 in
theorem rd0 {n B g gc : Nat} {w W : World} {cm : Cm} {bs : List Int} {e : Int} (h : Tq B w g gc W cm bs e) (hB : Bxs W n 47 44 35) (hn : gc < n) (hn2 : n + 2 < W.heap.size) :
    Calls Tryz.prog 85 #[bx g, bx gc, bx (n + 2), bx n] W fun E W' => E = .returned (.tuple #[]) ∧ Tq B w g gc W' (rdF cm bs e 0).1 (rdF cm bs e 0).2.1 (rdF cm bs e 0).2.2 ∧ W.heap.size ≤ W'.heap.size ∧ ∀ j, gc < j → j < W.heap.size → W'.heap[j]? = W.heap[j]? := by
  obtain ⟨V, hV⟩ : ∃ V, W.drew = V := ⟨_, rfl⟩
  have eV : V.heap = W.heap := by rw [← hV]; rfl
  replace h : Tq B w g gc V cm bs e := by rw [← hV]; exact h.below (Below.refl _ _).drew
  replace hB : Bxs V n 47 44 35 := by rw [← hV]; exact hB.below (Below.refl _ _).drew hn2
  rw [← eV] at hn2
  obtain ⟨A, m, k, rq, hA⟩ := h.rq
  have lt := h.lt
  have NB := sR_by h.by' e 4294967295
  have TKC := takes32 g m k A bs e V rq h.by' (by have := rq.r.1; have := h.len; omega)
  obtain ⟨⟨v, b1, e1⟩, hr⟩ : ∃ r, sR bs e 4294967295 = r := ⟨_, rfl⟩
  rw [hr] at TKC NB
  dsimp only at TKC NB
  have ER : rdF cm bs e 0 = ({ cm with ac := v }, b1, e1) := by
    show (({ cm with ac := (sR bs e 4294967295).1 } : Cm), (sR bs e 4294967295).2) = _
    rw [hr]
  rw [ER]
  dsimp only
  have PL := Lib.hid fun U => place0 gc U
  have TK := Lib.hid TKC
  have S0 : V.cell? ⟨n, 0, none⟩ = some (fv 47) ∧ V.cell? ⟨n + 2, 0, none⟩ = some (fv 35) := ⟨hB.p, hB.k⟩
  have KS := Lib.hid fun (U : World) (f : ∀ j, gc < j → j < V.heap.size → U.heap[j]? = V.heap[j]?) => (show U.cell? ⟨n, 0, none⟩ = some (fv 47) ∧ U.cell? ⟨n + 2, 0, none⟩ = some (fv 35) from
    ⟨by rw [← S0.1]; unfold World.cell?; rw [f n hn (by omega)], by rw [← S0.2]; unfold World.cell?; rw [f (n + 2) (by omega) hn2]⟩)
  have HT := Lib.hid h
  have HA := Lib.hid hA
  have NBH := Lib.hid NB
  have LT := Lib.hid lt
  clear h hA TKC hB NB rq hr ER lt
  unfold fv at S0 KS
  unfold bx
  go_enter Tryz.func85, Tryz.ntmps85
  refine wp_region_held_drew (S := fun U => U.cell? ⟨n, 0, none⟩ = some (.func (.func 47) #[] #[]) ∧ U.cell? ⟨n + 2, 0, none⟩ = some (.func (.func 35) #[] #[])) (by kernel_rfl) (by rw [hV]; exact S0) (fun hH => ?_)
  refine wpAnyH_take (i := 0) (v := .func (.func 47) #[] #[]) rfl (by kernel_rfl) (by kernel_rfl) (by kernel_rfl) (fun _ _ _ h => h) (.inl ⟨by rfl, ?_⟩) (by assumption) ?_
  · intro W hW; have k0 := hW.1; go_simp
  try simp only [List.getElem_toArray, List.getElem_cons_zero, Act.put, List.setIfInBounds_toArray, List.set_cons_zero, List.set_cons_succ]
  refine wpAnyH_take (i := 1) (v := .pointer (some ⟨gc, 0, none⟩)) rfl (by kernel_rfl) (by kernel_rfl) (by kernel_rfl) (fun _ _ _ h => h) (.inl ⟨by rfl, ?_⟩) (by assumption) ?_
  · intro W hW; go_simp
  try simp only [List.getElem_toArray, List.getElem_cons_zero, List.getElem_cons_succ, Act.put, List.setIfInBounds_toArray, List.set_cons_zero, List.set_cons_succ]
  refine wpAnyH_take (i := 3) (v := .func (.func 35) #[] #[]) rfl (by kernel_rfl) (by kernel_rfl) (by kernel_rfl) (fun _ _ _ h => h) (.inl ⟨by rfl, ?_⟩) (by assumption) ?_
  · intro W hW; have k0 := hW.2; go_simp
  try simp only [List.getElem_toArray, List.getElem_cons_zero, List.getElem_cons_succ, Act.put, List.setIfInBounds_toArray, List.set_cons_zero, List.set_cons_succ]
  refine wpAnyH_take (i := 4) (v := .pointer (some ⟨g, 0, none⟩)) rfl (by kernel_rfl) (by kernel_rfl) (by kernel_rfl) (fun _ _ _ h => h) (.inl ⟨by rfl, ?_⟩) (by assumption) ?_
  · intro W hW; go_simp
  try simp only [List.getElem_toArray, List.getElem_cons_zero, List.getElem_cons_succ, Act.put, List.setIfInBounds_toArray, List.set_cons_zero, List.set_cons_succ]
  rw [hV]
  refine wpAnyH_ready (rs := [2]) (by decide +kernel) (by simp) (AllReadyH.cons rfl (fun KQ hK => ?_) AllReadyH.nil)
  go_simp
  refine (PL.out _).mono ?_; rintro e0 Wp ⟨rfl, rfl⟩
  refine hK.out _ _ S0 (fun _ => ?_)
  clear hK
  try simp only [List.setIfInBounds_toArray, List.set_cons_zero, List.set_cons_succ]
  refine wpAnyH_ready (rs := [5]) (by decide +kernel) (by simp) (AllReadyH.cons rfl (fun KQ hK => ?_) AllReadyH.nil)
  go_simp
  refine TK.out.mono ?_; rintro e0 Wa ⟨rfl, d⟩
  have SZ := Lib.hid d.2.size
  have KE : Hid (∀ j, gc < j → j < V.heap.size → Wa.heap[j]? = V.heap[j]?) := Lib.hid fun j hj hj2 => d.2.block j hj2 (by have := LT.out; simp; omega)
  have T1 := Lib.hid (HT.out.call HA.out d NBH.out.1 NBH.out.2)
  clear d TK
  refine hK.out _ _ (KS.out _ KE.out) (fun _ => ?_)
  clear hK
  try simp only [List.setIfInBounds_toArray, List.set_cons_zero, List.set_cons_succ]
  refine wpAnyH_take (i := 6) (v := .pointer (some ⟨gc, 1, none⟩)) rfl (by kernel_rfl) (by kernel_rfl) (by kernel_rfl) (fun _ _ _ h => h) (.inl ⟨by rfl, ?_⟩) (by assumption) ?_
  · intro W hW; go_simp
  try simp only [List.getElem_toArray, List.getElem_cons_zero, List.getElem_cons_succ, Act.put, List.setIfInBounds_toArray, List.set_cons_zero, List.set_cons_succ]
  have hcell : Wa.cell? ⟨gc, 1, none⟩ = some (.int .u32 cm.ac) := (gbx_cell T1.out.box 1).trans ((cm_hd cm (i := 1) (by omega)).trans rfl)
  have hfree : Wa.frozen? ⟨gc, 1, none⟩ = false := gbx_fz T1.out.box 1
  refine wpAnyH_ready (rs := [7]) (by decide +kernel) (by simp) (AllReadyH.cons rfl (fun KQ hK => ?_) AllReadyH.nil)
  go_simp
  refine hK.out _ _ (KS.out _ fun j hj hj2 => (heap_setCell_other _ _ _ _ (by show j ≠ gc; omega)).trans (KE.out j hj hj2)) (fun _ => ?_)
  clear hK hcell hfree
  try simp only [List.setIfInBounds_toArray, List.set_cons_zero, List.set_cons_succ]
  refine wpAnyH_done (by decide +kernel) ?_ _
  clear hH
  go_wp2_with fail
  go_end0
  rw [← eV]
  exact ⟨rfl, T1.out.put (Wt.cm_hset (i := 1) (by omega) rfl rfl rfl), by simpa using SZ.out, fun j hj hj2 => (heap_setCell_other _ _ _ _ (by show j ≠ gc; omega)).trans (KE.out j hj hj2)⟩
set_option maxRecDepth 100000 in
set_option maxHeartbeats 8000000 in
theorem ca0 {n gc : Nat} {W : World} (s c : Cm) (hx : ECm.Bx 32 W gc c) (hB : Bxs W n 47 44 35) (hn : gc < n) (hn2 : n + 2 < W.heap.size) :
    Calls Tryz.prog 86 #[.agg (ECm.cells s).toArray, bx gc, bx n] W fun E W' => E = .returned (.tuple #[]) ∧ ECm.Bx 32 W' gc (cpF s c 0) ∧ Below gc W W' ∧ ∀ j, gc < j → j < W.heap.size → W'.heap[j]? = W.heap[j]? := by
  obtain ⟨W1, hW1⟩ : ∃ U, W.alloc (.cells (ECm.cells s).toArray 32) = U := ⟨_, rfl⟩
  obtain ⟨g, hg⟩ : ∃ g, W.heap.size = g := ⟨_, rfl⟩
  have b1 : Below W.heap.size W W1 := by rw [← hW1]; exact below_new _ _
  have x1 : ECm.Bx 32 W1 g s := by rw [← hW1, ← hg]; exact gbx_new W _
  obtain ⟨V, hV⟩ : ∃ V, W1.drew = V := ⟨_, rfl⟩
  replace x1 : ECm.Bx 32 V g s := by rw [← hV]; exact gbx_below x1 (Below.refl _ _).drew
  replace b1 : Below W.heap.size W V := by rw [← hV]; exact b1.drew
  have HX := Lib.hid (gbx_below hx b1)
  have B1 := Lib.hid (b1.mono (show gc ≤ W.heap.size by omega))
  have K1 : Hid (∀ j, j < W.heap.size → V.heap[j]? = W.heap[j]?) := Lib.hid fun j hj => b1.block j hj
  have EQ : Hid (ECm.cells (cpF s c 0) = (ECm.cells c).set 1 (.int .u32 s.ac)) := Lib.hid (Wt.cm_hset (i := 1) (by omega) rfl rfl rfl)
  have PL := Lib.hid fun p U => place0 p U
  have c0 : V.cell? ⟨n, 0, none⟩ = some (fv 47) ∧ V.cell? ⟨g, 1, none⟩ = some (.int .u32 s.ac) := ⟨(hB.below b1 hn2).p, (gbx_cell x1 1).trans ((cm_hd s (i := 1) (by omega)).trans rfl)⟩
  have KS := Lib.hid fun (U : World) (f : ∀ j, j ≠ gc → U.heap[j]? = V.heap[j]?) => (show U.cell? ⟨n, 0, none⟩ = some (fv 47) ∧ U.cell? ⟨g, 1, none⟩ = some (.int .u32 s.ac) from
    ⟨by rw [← c0.1]; unfold World.cell?; rw [f n (by omega)], by rw [← c0.2]; unfold World.cell?; rw [f g (by omega)]⟩)
  have HW1 := Lib.hid hW1
  have HG := Lib.hid hg
  clear hB hx b1 x1 hW1
  unfold fv at c0 KS
  unfold bx
  go_enter Tryz.func86, Tryz.ntmps86
  go_wp2_with fail
  rw [HW1.out]
  try rw [HG.out]
  refine wp_region_held_drew (S := fun U => U.cell? ⟨n, 0, none⟩ = some (.func (.func 47) #[] #[]) ∧ U.cell? ⟨g, 1, none⟩ = some (.int .u32 s.ac)) (by kernel_rfl) (by rw [hV]; exact c0) (fun hH => ?_)
  refine wpAnyH_take (i := 0) (v := .func (.func 47) #[] #[]) rfl (by kernel_rfl) (by kernel_rfl) (by kernel_rfl) (fun _ _ _ h => h) (.inl ⟨by rfl, ?_⟩) (by assumption) ?_
  · intro W hW; have k0 := hW.1; go_simp
  try simp only [List.getElem_toArray, List.getElem_cons_zero, Act.put, List.setIfInBounds_toArray, List.set_cons_zero, List.set_cons_succ]
  refine wpAnyH_take (i := 1) (v := .pointer (some ⟨gc, 0, none⟩)) rfl (by kernel_rfl) (by kernel_rfl) (by kernel_rfl) (fun _ _ _ h => h) (.inl ⟨by rfl, ?_⟩) (by assumption) ?_
  · intro W hW; go_simp
  try simp only [List.getElem_toArray, List.getElem_cons_zero, List.getElem_cons_succ, Act.put, List.setIfInBounds_toArray, List.set_cons_zero, List.set_cons_succ]
  refine wpAnyH_take (i := 3) (v := .func (.func 47) #[] #[]) rfl (by kernel_rfl) (by kernel_rfl) (by kernel_rfl) (fun _ _ _ h => h) (.inl ⟨by rfl, ?_⟩) (by assumption) ?_
  · intro W hW; have k0 := hW.1; go_simp
  try simp only [List.getElem_toArray, List.getElem_cons_zero, List.getElem_cons_succ, Act.put, List.setIfInBounds_toArray, List.set_cons_zero, List.set_cons_succ]
  rw [hV]
  refine wpAnyH_ready (rs := [2]) (by decide +kernel) (by simp) (AllReadyH.cons rfl (fun KQ hK => ?_) AllReadyH.nil)
  go_simp
  refine (PL.out _ _).mono ?_; rintro e0 Wp ⟨rfl, rfl⟩
  refine hK.out _ _ c0 (fun _ => ?_)
  clear hK
  try simp only [List.setIfInBounds_toArray, List.set_cons_zero, List.set_cons_succ]
  refine wpAnyH_ready (rs := [4]) (by decide +kernel) (by simp) (AllReadyH.cons rfl (fun KQ hK => ?_) AllReadyH.nil)
  go_simp
  refine (PL.out _ _).mono ?_; rintro e0 Wp ⟨rfl, rfl⟩
  refine hK.out _ _ c0 (fun _ => ?_)
  clear hK
  try simp only [List.setIfInBounds_toArray, List.set_cons_zero, List.set_cons_succ]
  refine wpAnyH_take (i := 5) (v := .pointer (some ⟨g, 1, none⟩)) rfl (by kernel_rfl) (by kernel_rfl) (by kernel_rfl) (fun _ _ _ h => h) (.inl ⟨by rfl, ?_⟩) (by assumption) ?_
  · intro W hW; go_simp
  try simp only [List.getElem_toArray, List.getElem_cons_zero, List.getElem_cons_succ, Act.put, List.setIfInBounds_toArray, List.set_cons_zero, List.set_cons_succ]
  refine wpAnyH_take (i := 6) (v := .int .u32 s.ac) rfl (by kernel_rfl) (by kernel_rfl) (by kernel_rfl) (fun _ _ _ h => h) (.inl ⟨by rfl, ?_⟩) (by assumption) ?_
  · intro W hW; have k0 := hW.2; go_simp
  try simp only [List.getElem_toArray, List.getElem_cons_zero, List.getElem_cons_succ, Act.put, List.setIfInBounds_toArray, List.set_cons_zero, List.set_cons_succ]
  refine wpAnyH_take (i := 7) (v := .pointer (some ⟨gc, 1, none⟩)) rfl (by kernel_rfl) (by kernel_rfl) (by kernel_rfl) (fun _ _ _ h => h) (.inl ⟨by rfl, ?_⟩) (by assumption) ?_
  · intro W hW; go_simp
  try simp only [List.getElem_toArray, List.getElem_cons_zero, List.getElem_cons_succ, Act.put, List.setIfInBounds_toArray, List.set_cons_zero, List.set_cons_succ]
  have hcell : V.cell? ⟨gc, 1, none⟩ = some (.int .u32 c.ac) := (gbx_cell HX.out 1).trans ((cm_hd c (i := 1) (by omega)).trans rfl)
  have hfree : V.frozen? ⟨gc, 1, none⟩ = false := gbx_fz HX.out 1
  refine wpAnyH_ready (rs := [8]) (by decide +kernel) (by simp) (AllReadyH.cons rfl (fun KQ hK => ?_) AllReadyH.nil)
  go_simp
  refine hK.out _ _ (KS.out _ (carry_set HX.out EQ.out).2.2) (fun _ => ?_)
  clear hK hcell hfree
  try simp only [List.setIfInBounds_toArray, List.set_cons_zero, List.set_cons_succ]
  refine wpAnyH_done (by decide +kernel) ?_ _
  clear hH
  go_wp2_with fail
  go_end0
  exact ⟨rfl, (carry_set HX.out EQ.out).1, B1.out.trans ((carry_set HX.out EQ.out).2.1), fun j hj hj2 => ((carry_set HX.out EQ.out).2.2 j (by omega)).trans (K1.out j hj2)⟩
set_option maxRecDepth 100000 in
set_option maxHeartbeats 8000000 in
theorem rd1 {n B g gc : Nat} {w W : World} {cm : Cm} {bs : List Int} {e : Int} (h : Tq B w g gc W cm bs e) (hB : Bxs W n 48 44 35) (hn : gc < n) (hn2 : n + 2 < W.heap.size) :
    Calls Tryz.prog 85 #[bx g, bx gc, bx (n + 2), bx n] W fun E W' => E = .returned (.tuple #[]) ∧ Tq B w g gc W' (rdF cm bs e 1).1 (rdF cm bs e 1).2.1 (rdF cm bs e 1).2.2 ∧ W.heap.size ≤ W'.heap.size ∧ ∀ j, gc < j → j < W.heap.size → W'.heap[j]? = W.heap[j]? := by
  obtain ⟨V, hV⟩ : ∃ V, W.drew = V := ⟨_, rfl⟩
  have eV : V.heap = W.heap := by rw [← hV]; rfl
  replace h : Tq B w g gc V cm bs e := by rw [← hV]; exact h.below (Below.refl _ _).drew
  replace hB : Bxs V n 48 44 35 := by rw [← hV]; exact hB.below (Below.refl _ _).drew hn2
  rw [← eV] at hn2
  obtain ⟨A, m, k, rq, hA⟩ := h.rq
  have lt := h.lt
  have NB := sR_by h.by' e 4294967295
  have TKC := takes32 g m k A bs e V rq h.by' (by have := rq.r.1; have := h.len; omega)
  obtain ⟨⟨v, b1, e1⟩, hr⟩ : ∃ r, sR bs e 4294967295 = r := ⟨_, rfl⟩
  rw [hr] at TKC NB
  dsimp only at TKC NB
  have ER : rdF cm bs e 1 = ({ cm with ct := v }, b1, e1) := by
    show (({ cm with ct := (sR bs e 4294967295).1 } : Cm), (sR bs e 4294967295).2) = _
    rw [hr]
  rw [ER]
  dsimp only
  have PL := Lib.hid fun U => place1 gc U
  have TK := Lib.hid TKC
  have S0 : V.cell? ⟨n, 0, none⟩ = some (fv 48) ∧ V.cell? ⟨n + 2, 0, none⟩ = some (fv 35) := ⟨hB.p, hB.k⟩
  have KS := Lib.hid fun (U : World) (f : ∀ j, gc < j → j < V.heap.size → U.heap[j]? = V.heap[j]?) => (show U.cell? ⟨n, 0, none⟩ = some (fv 48) ∧ U.cell? ⟨n + 2, 0, none⟩ = some (fv 35) from
    ⟨by rw [← S0.1]; unfold World.cell?; rw [f n hn (by omega)], by rw [← S0.2]; unfold World.cell?; rw [f (n + 2) (by omega) hn2]⟩)
  have HT := Lib.hid h
  have HA := Lib.hid hA
  have NBH := Lib.hid NB
  have LT := Lib.hid lt
  clear h hA TKC hB NB rq hr ER lt
  unfold fv at S0 KS
  unfold bx
  go_enter Tryz.func85, Tryz.ntmps85
  refine wp_region_held_drew (S := fun U => U.cell? ⟨n, 0, none⟩ = some (.func (.func 48) #[] #[]) ∧ U.cell? ⟨n + 2, 0, none⟩ = some (.func (.func 35) #[] #[])) (by kernel_rfl) (by rw [hV]; exact S0) (fun hH => ?_)
  refine wpAnyH_take (i := 0) (v := .func (.func 48) #[] #[]) rfl (by kernel_rfl) (by kernel_rfl) (by kernel_rfl) (fun _ _ _ h => h) (.inl ⟨by rfl, ?_⟩) (by assumption) ?_
  · intro W hW; have k0 := hW.1; go_simp
  try simp only [List.getElem_toArray, List.getElem_cons_zero, Act.put, List.setIfInBounds_toArray, List.set_cons_zero, List.set_cons_succ]
  refine wpAnyH_take (i := 1) (v := .pointer (some ⟨gc, 0, none⟩)) rfl (by kernel_rfl) (by kernel_rfl) (by kernel_rfl) (fun _ _ _ h => h) (.inl ⟨by rfl, ?_⟩) (by assumption) ?_
  · intro W hW; go_simp
  try simp only [List.getElem_toArray, List.getElem_cons_zero, List.getElem_cons_succ, Act.put, List.setIfInBounds_toArray, List.set_cons_zero, List.set_cons_succ]
  refine wpAnyH_take (i := 3) (v := .func (.func 35) #[] #[]) rfl (by kernel_rfl) (by kernel_rfl) (by kernel_rfl) (fun _ _ _ h => h) (.inl ⟨by rfl, ?_⟩) (by assumption) ?_
  · intro W hW; have k0 := hW.2; go_simp
  try simp only [List.getElem_toArray, List.getElem_cons_zero, List.getElem_cons_succ, Act.put, List.setIfInBounds_toArray, List.set_cons_zero, List.set_cons_succ]
  refine wpAnyH_take (i := 4) (v := .pointer (some ⟨g, 0, none⟩)) rfl (by kernel_rfl) (by kernel_rfl) (by kernel_rfl) (fun _ _ _ h => h) (.inl ⟨by rfl, ?_⟩) (by assumption) ?_
  · intro W hW; go_simp
  try simp only [List.getElem_toArray, List.getElem_cons_zero, List.getElem_cons_succ, Act.put, List.setIfInBounds_toArray, List.set_cons_zero, List.set_cons_succ]
  rw [hV]
  refine wpAnyH_ready (rs := [2]) (by decide +kernel) (by simp) (AllReadyH.cons rfl (fun KQ hK => ?_) AllReadyH.nil)
  go_simp
  refine (PL.out _).mono ?_; rintro e0 Wp ⟨rfl, rfl⟩
  refine hK.out _ _ S0 (fun _ => ?_)
  clear hK
  try simp only [List.setIfInBounds_toArray, List.set_cons_zero, List.set_cons_succ]
  refine wpAnyH_ready (rs := [5]) (by decide +kernel) (by simp) (AllReadyH.cons rfl (fun KQ hK => ?_) AllReadyH.nil)
  go_simp
  refine TK.out.mono ?_; rintro e0 Wa ⟨rfl, d⟩
  have SZ := Lib.hid d.2.size
  have KE : Hid (∀ j, gc < j → j < V.heap.size → Wa.heap[j]? = V.heap[j]?) := Lib.hid fun j hj hj2 => d.2.block j hj2 (by have := LT.out; simp; omega)
  have T1 := Lib.hid (HT.out.call HA.out d NBH.out.1 NBH.out.2)
  clear d TK
  refine hK.out _ _ (KS.out _ KE.out) (fun _ => ?_)
  clear hK
  try simp only [List.setIfInBounds_toArray, List.set_cons_zero, List.set_cons_succ]
  refine wpAnyH_take (i := 6) (v := .pointer (some ⟨gc, 2, none⟩)) rfl (by kernel_rfl) (by kernel_rfl) (by kernel_rfl) (fun _ _ _ h => h) (.inl ⟨by rfl, ?_⟩) (by assumption) ?_
  · intro W hW; go_simp
  try simp only [List.getElem_toArray, List.getElem_cons_zero, List.getElem_cons_succ, Act.put, List.setIfInBounds_toArray, List.set_cons_zero, List.set_cons_succ]
  have hcell : Wa.cell? ⟨gc, 2, none⟩ = some (.int .u32 cm.ct) := (gbx_cell T1.out.box 2).trans ((cm_hd cm (i := 2) (by omega)).trans rfl)
  have hfree : Wa.frozen? ⟨gc, 2, none⟩ = false := gbx_fz T1.out.box 2
  refine wpAnyH_ready (rs := [7]) (by decide +kernel) (by simp) (AllReadyH.cons rfl (fun KQ hK => ?_) AllReadyH.nil)
  go_simp
  refine hK.out _ _ (KS.out _ fun j hj hj2 => (heap_setCell_other _ _ _ _ (by show j ≠ gc; omega)).trans (KE.out j hj hj2)) (fun _ => ?_)
  clear hK hcell hfree
  try simp only [List.setIfInBounds_toArray, List.set_cons_zero, List.set_cons_succ]
  refine wpAnyH_done (by decide +kernel) ?_ _
  clear hH
  go_wp2_with fail
  go_end0
  rw [← eV]
  exact ⟨rfl, T1.out.put (Wt.cm_hset (i := 2) (by omega) rfl rfl rfl), by simpa using SZ.out, fun j hj hj2 => (heap_setCell_other _ _ _ _ (by show j ≠ gc; omega)).trans (KE.out j hj hj2)⟩
set_option maxRecDepth 100000 in
set_option maxHeartbeats 8000000 in
theorem ca1 {n gc : Nat} {W : World} (s c : Cm) (hx : ECm.Bx 32 W gc c) (hB : Bxs W n 48 44 35) (hn : gc < n) (hn2 : n + 2 < W.heap.size) :
    Calls Tryz.prog 86 #[.agg (ECm.cells s).toArray, bx gc, bx n] W fun E W' => E = .returned (.tuple #[]) ∧ ECm.Bx 32 W' gc (cpF s c 1) ∧ Below gc W W' ∧ ∀ j, gc < j → j < W.heap.size → W'.heap[j]? = W.heap[j]? := by
  obtain ⟨W1, hW1⟩ : ∃ U, W.alloc (.cells (ECm.cells s).toArray 32) = U := ⟨_, rfl⟩
  obtain ⟨g, hg⟩ : ∃ g, W.heap.size = g := ⟨_, rfl⟩
  have b1 : Below W.heap.size W W1 := by rw [← hW1]; exact below_new _ _
  have x1 : ECm.Bx 32 W1 g s := by rw [← hW1, ← hg]; exact gbx_new W _
  obtain ⟨V, hV⟩ : ∃ V, W1.drew = V := ⟨_, rfl⟩
  replace x1 : ECm.Bx 32 V g s := by rw [← hV]; exact gbx_below x1 (Below.refl _ _).drew
  replace b1 : Below W.heap.size W V := by rw [← hV]; exact b1.drew
  have HX := Lib.hid (gbx_below hx b1)
  have B1 := Lib.hid (b1.mono (show gc ≤ W.heap.size by omega))
  have K1 : Hid (∀ j, j < W.heap.size → V.heap[j]? = W.heap[j]?) := Lib.hid fun j hj => b1.block j hj
  have EQ : Hid (ECm.cells (cpF s c 1) = (ECm.cells c).set 2 (.int .u32 s.ct)) := Lib.hid (Wt.cm_hset (i := 2) (by omega) rfl rfl rfl)
  have PL := Lib.hid fun p U => place1 p U
  have c0 : V.cell? ⟨n, 0, none⟩ = some (fv 48) ∧ V.cell? ⟨g, 2, none⟩ = some (.int .u32 s.ct) := ⟨(hB.below b1 hn2).p, (gbx_cell x1 2).trans ((cm_hd s (i := 2) (by omega)).trans rfl)⟩
  have KS := Lib.hid fun (U : World) (f : ∀ j, j ≠ gc → U.heap[j]? = V.heap[j]?) => (show U.cell? ⟨n, 0, none⟩ = some (fv 48) ∧ U.cell? ⟨g, 2, none⟩ = some (.int .u32 s.ct) from
    ⟨by rw [← c0.1]; unfold World.cell?; rw [f n (by omega)], by rw [← c0.2]; unfold World.cell?; rw [f g (by omega)]⟩)
  have HW1 := Lib.hid hW1
  have HG := Lib.hid hg
  clear hB hx b1 x1 hW1
  unfold fv at c0 KS
  unfold bx
  go_enter Tryz.func86, Tryz.ntmps86
  go_wp2_with fail
  rw [HW1.out]
  try rw [HG.out]
  refine wp_region_held_drew (S := fun U => U.cell? ⟨n, 0, none⟩ = some (.func (.func 48) #[] #[]) ∧ U.cell? ⟨g, 2, none⟩ = some (.int .u32 s.ct)) (by kernel_rfl) (by rw [hV]; exact c0) (fun hH => ?_)
  refine wpAnyH_take (i := 0) (v := .func (.func 48) #[] #[]) rfl (by kernel_rfl) (by kernel_rfl) (by kernel_rfl) (fun _ _ _ h => h) (.inl ⟨by rfl, ?_⟩) (by assumption) ?_
  · intro W hW; have k0 := hW.1; go_simp
  try simp only [List.getElem_toArray, List.getElem_cons_zero, Act.put, List.setIfInBounds_toArray, List.set_cons_zero, List.set_cons_succ]
  refine wpAnyH_take (i := 1) (v := .pointer (some ⟨gc, 0, none⟩)) rfl (by kernel_rfl) (by kernel_rfl) (by kernel_rfl) (fun _ _ _ h => h) (.inl ⟨by rfl, ?_⟩) (by assumption) ?_
  · intro W hW; go_simp
  try simp only [List.getElem_toArray, List.getElem_cons_zero, List.getElem_cons_succ, Act.put, List.setIfInBounds_toArray, List.set_cons_zero, List.set_cons_succ]
  refine wpAnyH_take (i := 3) (v := .func (.func 48) #[] #[]) rfl (by kernel_rfl) (by kernel_rfl) (by kernel_rfl) (fun _ _ _ h => h) (.inl ⟨by rfl, ?_⟩) (by assumption) ?_
  · intro W hW; have k0 := hW.1; go_simp
  try simp only [List.getElem_toArray, List.getElem_cons_zero, List.getElem_cons_succ, Act.put, List.setIfInBounds_toArray, List.set_cons_zero, List.set_cons_succ]
  rw [hV]
  refine wpAnyH_ready (rs := [2]) (by decide +kernel) (by simp) (AllReadyH.cons rfl (fun KQ hK => ?_) AllReadyH.nil)
  go_simp
  refine (PL.out _ _).mono ?_; rintro e0 Wp ⟨rfl, rfl⟩
  refine hK.out _ _ c0 (fun _ => ?_)
  clear hK
  try simp only [List.setIfInBounds_toArray, List.set_cons_zero, List.set_cons_succ]
  refine wpAnyH_ready (rs := [4]) (by decide +kernel) (by simp) (AllReadyH.cons rfl (fun KQ hK => ?_) AllReadyH.nil)
  go_simp
  refine (PL.out _ _).mono ?_; rintro e0 Wp ⟨rfl, rfl⟩
  refine hK.out _ _ c0 (fun _ => ?_)
  clear hK
  try simp only [List.setIfInBounds_toArray, List.set_cons_zero, List.set_cons_succ]
  refine wpAnyH_take (i := 5) (v := .pointer (some ⟨g, 2, none⟩)) rfl (by kernel_rfl) (by kernel_rfl) (by kernel_rfl) (fun _ _ _ h => h) (.inl ⟨by rfl, ?_⟩) (by assumption) ?_
  · intro W hW; go_simp
  try simp only [List.getElem_toArray, List.getElem_cons_zero, List.getElem_cons_succ, Act.put, List.setIfInBounds_toArray, List.set_cons_zero, List.set_cons_succ]
  refine wpAnyH_take (i := 6) (v := .int .u32 s.ct) rfl (by kernel_rfl) (by kernel_rfl) (by kernel_rfl) (fun _ _ _ h => h) (.inl ⟨by rfl, ?_⟩) (by assumption) ?_
  · intro W hW; have k0 := hW.2; go_simp
  try simp only [List.getElem_toArray, List.getElem_cons_zero, List.getElem_cons_succ, Act.put, List.setIfInBounds_toArray, List.set_cons_zero, List.set_cons_succ]
  refine wpAnyH_take (i := 7) (v := .pointer (some ⟨gc, 2, none⟩)) rfl (by kernel_rfl) (by kernel_rfl) (by kernel_rfl) (fun _ _ _ h => h) (.inl ⟨by rfl, ?_⟩) (by assumption) ?_
  · intro W hW; go_simp
  try simp only [List.getElem_toArray, List.getElem_cons_zero, List.getElem_cons_succ, Act.put, List.setIfInBounds_toArray, List.set_cons_zero, List.set_cons_succ]
  have hcell : V.cell? ⟨gc, 2, none⟩ = some (.int .u32 c.ct) := (gbx_cell HX.out 2).trans ((cm_hd c (i := 2) (by omega)).trans rfl)
  have hfree : V.frozen? ⟨gc, 2, none⟩ = false := gbx_fz HX.out 2
  refine wpAnyH_ready (rs := [8]) (by decide +kernel) (by simp) (AllReadyH.cons rfl (fun KQ hK => ?_) AllReadyH.nil)
  go_simp
  refine hK.out _ _ (KS.out _ (carry_set HX.out EQ.out).2.2) (fun _ => ?_)
  clear hK hcell hfree
  try simp only [List.setIfInBounds_toArray, List.set_cons_zero, List.set_cons_succ]
  refine wpAnyH_done (by decide +kernel) ?_ _
  clear hH
  go_wp2_with fail
  go_end0
  exact ⟨rfl, (carry_set HX.out EQ.out).1, B1.out.trans ((carry_set HX.out EQ.out).2.1), fun j hj hj2 => ((carry_set HX.out EQ.out).2.2 j (by omega)).trans (K1.out j hj2)⟩
set_option maxRecDepth 100000 in
set_option maxHeartbeats 8000000 in
theorem rd2 {n B g gc : Nat} {w W : World} {cm : Cm} {bs : List Int} {e : Int} (h : Tq B w g gc W cm bs e) (hB : Bxs W n 50 38 27) (hn : gc < n) (hn2 : n + 2 < W.heap.size) :
    Calls Tryz.prog 88 #[bx g, bx gc, bx (n + 2), bx n] W fun E W' => E = .returned (.tuple #[]) ∧ Tq B w g gc W' (rdF cm bs e 2).1 (rdF cm bs e 2).2.1 (rdF cm bs e 2).2.2 ∧ W.heap.size ≤ W'.heap.size ∧ ∀ j, gc < j → j < W.heap.size → W'.heap[j]? = W.heap[j]? := by
  obtain ⟨V, hV⟩ : ∃ V, W.drew = V := ⟨_, rfl⟩
  have eV : V.heap = W.heap := by rw [← hV]; rfl
  replace h : Tq B w g gc V cm bs e := by rw [← hV]; exact h.below (Below.refl _ _).drew
  replace hB : Bxs V n 50 38 27 := by rw [← hV]; exact hB.below (Below.refl _ _).drew hn2
  rw [← eV] at hn2
  obtain ⟨A, m, k, rq, hA⟩ := h.rq
  have lt := h.lt
  have NB := sR_by h.by' e top
  have TKC := nat_any g m k A bs e V rq h.by' (by have := rq.r.1; have := h.len; omega)
  obtain ⟨⟨v, b1, e1⟩, hr⟩ : ∃ r, sR bs e top = r := ⟨_, rfl⟩
  rw [hr] at TKC NB
  dsimp only at TKC NB
  have ER : rdF cm bs e 2 = ({ cm with nu := v }, b1, e1) := by
    show (({ cm with nu := (sR bs e top).1 } : Cm), (sR bs e top).2) = _
    rw [hr]
  rw [ER]
  dsimp only
  have PL := Lib.hid fun U => place2 gc U
  have TK := Lib.hid TKC
  have S0 : V.cell? ⟨n, 0, none⟩ = some (fv 50) ∧ V.cell? ⟨n + 2, 0, none⟩ = some (fv 27) := ⟨hB.p, hB.k⟩
  have KS := Lib.hid fun (U : World) (f : ∀ j, gc < j → j < V.heap.size → U.heap[j]? = V.heap[j]?) => (show U.cell? ⟨n, 0, none⟩ = some (fv 50) ∧ U.cell? ⟨n + 2, 0, none⟩ = some (fv 27) from
    ⟨by rw [← S0.1]; unfold World.cell?; rw [f n hn (by omega)], by rw [← S0.2]; unfold World.cell?; rw [f (n + 2) (by omega) hn2]⟩)
  have HT := Lib.hid h
  have HA := Lib.hid hA
  have NBH := Lib.hid NB
  have LT := Lib.hid lt
  clear h hA TKC hB NB rq hr ER lt
  unfold fv at S0 KS
  unfold bx
  go_enter Tryz.func88, Tryz.ntmps88
  refine wp_region_held_drew (S := fun U => U.cell? ⟨n, 0, none⟩ = some (.func (.func 50) #[] #[]) ∧ U.cell? ⟨n + 2, 0, none⟩ = some (.func (.func 27) #[] #[])) (by kernel_rfl) (by rw [hV]; exact S0) (fun hH => ?_)
  refine wpAnyH_take (i := 0) (v := .func (.func 50) #[] #[]) rfl (by kernel_rfl) (by kernel_rfl) (by kernel_rfl) (fun _ _ _ h => h) (.inl ⟨by rfl, ?_⟩) (by assumption) ?_
  · intro W hW; have k0 := hW.1; go_simp
  try simp only [List.getElem_toArray, List.getElem_cons_zero, Act.put, List.setIfInBounds_toArray, List.set_cons_zero, List.set_cons_succ]
  refine wpAnyH_take (i := 1) (v := .pointer (some ⟨gc, 0, none⟩)) rfl (by kernel_rfl) (by kernel_rfl) (by kernel_rfl) (fun _ _ _ h => h) (.inl ⟨by rfl, ?_⟩) (by assumption) ?_
  · intro W hW; go_simp
  try simp only [List.getElem_toArray, List.getElem_cons_zero, List.getElem_cons_succ, Act.put, List.setIfInBounds_toArray, List.set_cons_zero, List.set_cons_succ]
  refine wpAnyH_take (i := 3) (v := .func (.func 27) #[] #[]) rfl (by kernel_rfl) (by kernel_rfl) (by kernel_rfl) (fun _ _ _ h => h) (.inl ⟨by rfl, ?_⟩) (by assumption) ?_
  · intro W hW; have k0 := hW.2; go_simp
  try simp only [List.getElem_toArray, List.getElem_cons_zero, List.getElem_cons_succ, Act.put, List.setIfInBounds_toArray, List.set_cons_zero, List.set_cons_succ]
  refine wpAnyH_take (i := 4) (v := .pointer (some ⟨g, 0, none⟩)) rfl (by kernel_rfl) (by kernel_rfl) (by kernel_rfl) (fun _ _ _ h => h) (.inl ⟨by rfl, ?_⟩) (by assumption) ?_
  · intro W hW; go_simp
  try simp only [List.getElem_toArray, List.getElem_cons_zero, List.getElem_cons_succ, Act.put, List.setIfInBounds_toArray, List.set_cons_zero, List.set_cons_succ]
  rw [hV]
  refine wpAnyH_ready (rs := [2]) (by decide +kernel) (by simp) (AllReadyH.cons rfl (fun KQ hK => ?_) AllReadyH.nil)
  go_simp
  refine (PL.out _).mono ?_; rintro e0 Wp ⟨rfl, rfl⟩
  refine hK.out _ _ S0 (fun _ => ?_)
  clear hK
  try simp only [List.setIfInBounds_toArray, List.set_cons_zero, List.set_cons_succ]
  refine wpAnyH_ready (rs := [5]) (by decide +kernel) (by simp) (AllReadyH.cons rfl (fun KQ hK => ?_) AllReadyH.nil)
  go_simp
  refine TK.out.mono ?_; rintro e0 Wa ⟨rfl, d⟩
  have SZ := Lib.hid d.2.size
  have KE : Hid (∀ j, gc < j → j < V.heap.size → Wa.heap[j]? = V.heap[j]?) := Lib.hid fun j hj hj2 => d.2.block j hj2 (by have := LT.out; simp; omega)
  have T1 := Lib.hid (HT.out.call HA.out d NBH.out.1 NBH.out.2)
  clear d TK
  refine hK.out _ _ (KS.out _ KE.out) (fun _ => ?_)
  clear hK
  try simp only [List.setIfInBounds_toArray, List.set_cons_zero, List.set_cons_succ]
  refine wpAnyH_take (i := 6) (v := .pointer (some ⟨gc, 3, none⟩)) rfl (by kernel_rfl) (by kernel_rfl) (by kernel_rfl) (fun _ _ _ h => h) (.inl ⟨by rfl, ?_⟩) (by assumption) ?_
  · intro W hW; go_simp
  try simp only [List.getElem_toArray, List.getElem_cons_zero, List.getElem_cons_succ, Act.put, List.setIfInBounds_toArray, List.set_cons_zero, List.set_cons_succ]
  have hcell : Wa.cell? ⟨gc, 3, none⟩ = some (.int .u64 cm.nu) := (gbx_cell T1.out.box 3).trans ((cm_hd cm (i := 3) (by omega)).trans rfl)
  have hfree : Wa.frozen? ⟨gc, 3, none⟩ = false := gbx_fz T1.out.box 3
  refine wpAnyH_ready (rs := [7]) (by decide +kernel) (by simp) (AllReadyH.cons rfl (fun KQ hK => ?_) AllReadyH.nil)
  go_simp
  refine hK.out _ _ (KS.out _ fun j hj hj2 => (heap_setCell_other _ _ _ _ (by show j ≠ gc; omega)).trans (KE.out j hj hj2)) (fun _ => ?_)
  clear hK hcell hfree
  try simp only [List.setIfInBounds_toArray, List.set_cons_zero, List.set_cons_succ]
  refine wpAnyH_done (by decide +kernel) ?_ _
  clear hH
  go_wp2_with fail
  go_end0
  rw [← eV]
  exact ⟨rfl, T1.out.put (Wt.cm_hset (i := 3) (by omega) rfl rfl rfl), by simpa using SZ.out, fun j hj hj2 => (heap_setCell_other _ _ _ _ (by show j ≠ gc; omega)).trans (KE.out j hj hj2)⟩
set_option maxRecDepth 100000 in
set_option maxHeartbeats 8000000 in
theorem ca2 {n gc : Nat} {W : World} (s c : Cm) (hx : ECm.Bx 32 W gc c) (hB : Bxs W n 50 38 27) (hn : gc < n) (hn2 : n + 2 < W.heap.size) :
    Calls Tryz.prog 89 #[.agg (ECm.cells s).toArray, bx gc, bx n] W fun E W' => E = .returned (.tuple #[]) ∧ ECm.Bx 32 W' gc (cpF s c 2) ∧ Below gc W W' ∧ ∀ j, gc < j → j < W.heap.size → W'.heap[j]? = W.heap[j]? := by
  obtain ⟨W1, hW1⟩ : ∃ U, W.alloc (.cells (ECm.cells s).toArray 32) = U := ⟨_, rfl⟩
  obtain ⟨g, hg⟩ : ∃ g, W.heap.size = g := ⟨_, rfl⟩
  have b1 : Below W.heap.size W W1 := by rw [← hW1]; exact below_new _ _
  have x1 : ECm.Bx 32 W1 g s := by rw [← hW1, ← hg]; exact gbx_new W _
  obtain ⟨V, hV⟩ : ∃ V, W1.drew = V := ⟨_, rfl⟩
  replace x1 : ECm.Bx 32 V g s := by rw [← hV]; exact gbx_below x1 (Below.refl _ _).drew
  replace b1 : Below W.heap.size W V := by rw [← hV]; exact b1.drew
  have HX := Lib.hid (gbx_below hx b1)
  have B1 := Lib.hid (b1.mono (show gc ≤ W.heap.size by omega))
  have K1 : Hid (∀ j, j < W.heap.size → V.heap[j]? = W.heap[j]?) := Lib.hid fun j hj => b1.block j hj
  have EQ : Hid (ECm.cells (cpF s c 2) = (ECm.cells c).set 3 (.int .u64 s.nu)) := Lib.hid (Wt.cm_hset (i := 3) (by omega) rfl rfl rfl)
  have PL := Lib.hid fun p U => place2 p U
  have c0 : V.cell? ⟨n, 0, none⟩ = some (fv 50) ∧ V.cell? ⟨g, 3, none⟩ = some (.int .u64 s.nu) := ⟨(hB.below b1 hn2).p, (gbx_cell x1 3).trans ((cm_hd s (i := 3) (by omega)).trans rfl)⟩
  have KS := Lib.hid fun (U : World) (f : ∀ j, j ≠ gc → U.heap[j]? = V.heap[j]?) => (show U.cell? ⟨n, 0, none⟩ = some (fv 50) ∧ U.cell? ⟨g, 3, none⟩ = some (.int .u64 s.nu) from
    ⟨by rw [← c0.1]; unfold World.cell?; rw [f n (by omega)], by rw [← c0.2]; unfold World.cell?; rw [f g (by omega)]⟩)
  have HW1 := Lib.hid hW1
  have HG := Lib.hid hg
  clear hB hx b1 x1 hW1
  unfold fv at c0 KS
  unfold bx
  go_enter Tryz.func89, Tryz.ntmps89
  go_wp2_with fail
  rw [HW1.out]
  try rw [HG.out]
  refine wp_region_held_drew (S := fun U => U.cell? ⟨n, 0, none⟩ = some (.func (.func 50) #[] #[]) ∧ U.cell? ⟨g, 3, none⟩ = some (.int .u64 s.nu)) (by kernel_rfl) (by rw [hV]; exact c0) (fun hH => ?_)
  refine wpAnyH_take (i := 0) (v := .func (.func 50) #[] #[]) rfl (by kernel_rfl) (by kernel_rfl) (by kernel_rfl) (fun _ _ _ h => h) (.inl ⟨by rfl, ?_⟩) (by assumption) ?_
  · intro W hW; have k0 := hW.1; go_simp
  try simp only [List.getElem_toArray, List.getElem_cons_zero, Act.put, List.setIfInBounds_toArray, List.set_cons_zero, List.set_cons_succ]
  refine wpAnyH_take (i := 1) (v := .pointer (some ⟨gc, 0, none⟩)) rfl (by kernel_rfl) (by kernel_rfl) (by kernel_rfl) (fun _ _ _ h => h) (.inl ⟨by rfl, ?_⟩) (by assumption) ?_
  · intro W hW; go_simp
  try simp only [List.getElem_toArray, List.getElem_cons_zero, List.getElem_cons_succ, Act.put, List.setIfInBounds_toArray, List.set_cons_zero, List.set_cons_succ]
  refine wpAnyH_take (i := 3) (v := .func (.func 50) #[] #[]) rfl (by kernel_rfl) (by kernel_rfl) (by kernel_rfl) (fun _ _ _ h => h) (.inl ⟨by rfl, ?_⟩) (by assumption) ?_
  · intro W hW; have k0 := hW.1; go_simp
  try simp only [List.getElem_toArray, List.getElem_cons_zero, List.getElem_cons_succ, Act.put, List.setIfInBounds_toArray, List.set_cons_zero, List.set_cons_succ]
  rw [hV]
  refine wpAnyH_ready (rs := [2]) (by decide +kernel) (by simp) (AllReadyH.cons rfl (fun KQ hK => ?_) AllReadyH.nil)
  go_simp
  refine (PL.out _ _).mono ?_; rintro e0 Wp ⟨rfl, rfl⟩
  refine hK.out _ _ c0 (fun _ => ?_)
  clear hK
  try simp only [List.setIfInBounds_toArray, List.set_cons_zero, List.set_cons_succ]
  refine wpAnyH_ready (rs := [4]) (by decide +kernel) (by simp) (AllReadyH.cons rfl (fun KQ hK => ?_) AllReadyH.nil)
  go_simp
  refine (PL.out _ _).mono ?_; rintro e0 Wp ⟨rfl, rfl⟩
  refine hK.out _ _ c0 (fun _ => ?_)
  clear hK
  try simp only [List.setIfInBounds_toArray, List.set_cons_zero, List.set_cons_succ]
  refine wpAnyH_take (i := 5) (v := .pointer (some ⟨g, 3, none⟩)) rfl (by kernel_rfl) (by kernel_rfl) (by kernel_rfl) (fun _ _ _ h => h) (.inl ⟨by rfl, ?_⟩) (by assumption) ?_
  · intro W hW; go_simp
  try simp only [List.getElem_toArray, List.getElem_cons_zero, List.getElem_cons_succ, Act.put, List.setIfInBounds_toArray, List.set_cons_zero, List.set_cons_succ]
  refine wpAnyH_take (i := 6) (v := .int .u64 s.nu) rfl (by kernel_rfl) (by kernel_rfl) (by kernel_rfl) (fun _ _ _ h => h) (.inl ⟨by rfl, ?_⟩) (by assumption) ?_
  · intro W hW; have k0 := hW.2; go_simp
  try simp only [List.getElem_toArray, List.getElem_cons_zero, List.getElem_cons_succ, Act.put, List.setIfInBounds_toArray, List.set_cons_zero, List.set_cons_succ]
  refine wpAnyH_take (i := 7) (v := .pointer (some ⟨gc, 3, none⟩)) rfl (by kernel_rfl) (by kernel_rfl) (by kernel_rfl) (fun _ _ _ h => h) (.inl ⟨by rfl, ?_⟩) (by assumption) ?_
  · intro W hW; go_simp
  try simp only [List.getElem_toArray, List.getElem_cons_zero, List.getElem_cons_succ, Act.put, List.setIfInBounds_toArray, List.set_cons_zero, List.set_cons_succ]
  have hcell : V.cell? ⟨gc, 3, none⟩ = some (.int .u64 c.nu) := (gbx_cell HX.out 3).trans ((cm_hd c (i := 3) (by omega)).trans rfl)
  have hfree : V.frozen? ⟨gc, 3, none⟩ = false := gbx_fz HX.out 3
  refine wpAnyH_ready (rs := [8]) (by decide +kernel) (by simp) (AllReadyH.cons rfl (fun KQ hK => ?_) AllReadyH.nil)
  go_simp
  refine hK.out _ _ (KS.out _ (carry_set HX.out EQ.out).2.2) (fun _ => ?_)
  clear hK hcell hfree
  try simp only [List.setIfInBounds_toArray, List.set_cons_zero, List.set_cons_succ]
  refine wpAnyH_done (by decide +kernel) ?_ _
  clear hH
  go_wp2_with fail
  go_end0
  exact ⟨rfl, (carry_set HX.out EQ.out).1, B1.out.trans ((carry_set HX.out EQ.out).2.1), fun j hj hj2 => ((carry_set HX.out EQ.out).2.2 j (by omega)).trans (K1.out j hj2)⟩
end Go.Proofs.YtbmlpokkojhhjaaGreat.Wz
