/- The program's words: a part's three functions: a field written, read, carried over: fields 3,5 (by genWfc.py). -/
import Derived.Test.YtbmlpokkojhhjaaGreatG18
namespace Go.Proofs.YtbmlpokkojhhjaaGreat.Wz
open Go.RowKit
set_option linter.unusedVariables false
set_option linter.unusedSimpArgs false

set_option maxRecDepth 100000 in
set_option maxHeartbeats 8000000 in
theorem wr3 {n : Nat} (A : Option Addr) (k : Nat) (bs : List Int) (cm : Cm) (W : World) (hB : Bxs W n 52 39 28) (hn : n + 2 < W.heap.size) (hr : RdB W A bs.length bs) (h0 : A = none → bs.length = 0 ∧ k = 0) (hl : bs.length ≤ 100000) (ok : cm.ok) :
    Calls Tryz.prog 90 #[.slice A bs.length k, .agg (ECm.cells cm).toArray, bx (n + 1), bx n] W (PutOk W (bs ++ fF cm 3)) := by
  obtain ⟨W1, hW1⟩ : ∃ U, W.alloc (.cells (ECm.cells cm).toArray 32) = U := ⟨_, rfl⟩
  obtain ⟨g, hg⟩ : ∃ g, W.heap.size = g := ⟨_, rfl⟩
  have b1 : Below W.heap.size W W1 := by rw [← hW1]; exact below_new _ _
  have x1 : ECm.Bx 32 W1 g cm := by rw [← hW1, ← hg]; exact gbx_new W _
  have hs := b1.size
  have KP := Lib.hid fun (U : World) (b : Below W1.heap.size W1 U) => ((hB.below b1 hn).below b (by omega)).p
  have KU := Lib.hid fun (U : World) (b : Below W1.heap.size W1 U) => ((hB.below b1 hn).below b (by omega)).u
  have PL := Lib.hid fun U => place3 g U
  have CV := Lib.hid fun (U : World) (b : Below W1.heap.size W1 U) => (show U.cell? ⟨g, 4, none⟩ = some (.int .i64 cm.am) from (gbx_cell (gbx_below x1 b) 4).trans ((cm_hd cm (i := 4) (by omega)).trans rfl))
  have PUT := Lib.hid fun (U : World) (b : Below W1.heap.size W1 U) => (show Calls Tryz.prog 39 #[.slice A bs.length k, .int .i64 cm.am] U (PutOk U (bs ++ fF cm 3)) from
    (wint15 A k bs cm.am U ((hr.below b1).below b) h0 (by omega) ok.am).mono fun E W' h => putok_made h)
  have HW1 := Lib.hid hW1
  have HG := Lib.hid hg
  have HB1 := Lib.hid b1
  clear hB hr h0 ok b1 x1 hs hW1
  obtain ⟨L, hL⟩ : ∃ L, bs.length = L := ⟨_, rfl⟩
  rw [hL] at PUT ⊢
  clear hL hl
  unfold fv at KP KU
  unfold bx
  go_enter Tryz.func90, Tryz.ntmps90
  go_wp2_with fail
  rw [HW1.out]
  try rw [HG.out]
  refine wp_region_held_drew (S := fun U => Below W1.heap.size W1 U) (by kernel_rfl) (Below.refl _ _).drew (fun hH => ?_)
  refine wpAnyH_take (i := 0) (v := .func (.func 39) #[] #[]) rfl (by kernel_rfl) (by kernel_rfl) (by kernel_rfl) (fun _ _ _ h => h) (.inl ⟨by rfl, ?_⟩) (by assumption) ?_
  · intro W hW; have k0 := KU.out W hW; go_simp
  try simp only [List.getElem_toArray, List.getElem_cons_zero, Act.put, List.setIfInBounds_toArray, List.set_cons_zero, List.set_cons_succ]
  refine wpAnyH_take (i := 1) (v := .slice A L k) rfl (by kernel_rfl) (by kernel_rfl) (by kernel_rfl) (fun _ _ _ h => h) (.inl ⟨by rfl, ?_⟩) (by assumption) ?_
  · intro W hW; go_simp
  try simp only [List.getElem_toArray, List.getElem_cons_zero, List.getElem_cons_succ, Act.put, List.setIfInBounds_toArray, List.set_cons_zero, List.set_cons_succ]
  refine wpAnyH_take (i := 2) (v := .func (.func 52) #[] #[]) rfl (by kernel_rfl) (by kernel_rfl) (by kernel_rfl) (fun _ _ _ h => h) (.inl ⟨by rfl, ?_⟩) (by assumption) ?_
  · intro W hW; have k0 := KP.out W hW; go_simp
  try simp only [List.getElem_toArray, List.getElem_cons_zero, List.getElem_cons_succ, Act.put, List.setIfInBounds_toArray, List.set_cons_zero, List.set_cons_succ]
  refine wpAnyH_ready (rs := [3]) (by decide +kernel) (by simp) (AllReadyH.cons rfl (fun KQ hK => ?_) AllReadyH.nil)
  go_simp
  refine (PL.out _).mono ?_; rintro e0 Wa ⟨rfl, rfl⟩
  refine hK.out _ _ hH (fun _ => ?_)
  clear hK
  try simp only [List.setIfInBounds_toArray, List.set_cons_zero, List.set_cons_succ]
  refine wpAnyH_take (i := 4) (v := .pointer (some ⟨g, 4, none⟩)) rfl (by kernel_rfl) (by kernel_rfl) (by kernel_rfl) (fun _ _ _ h => h) (.inl ⟨by rfl, ?_⟩) (by assumption) ?_
  · intro W hW; go_simp
  try simp only [List.getElem_toArray, List.getElem_cons_zero, List.getElem_cons_succ, Act.put, List.setIfInBounds_toArray, List.set_cons_zero, List.set_cons_succ]
  refine wpAnyH_take (i := 5) (v := .int .i64 cm.am) rfl (by kernel_rfl) (by kernel_rfl) (by kernel_rfl) (fun _ _ _ h => h) (.inl ⟨by rfl, ?_⟩) (by assumption) ?_
  · intro W hW; have k0 := CV.out W hW; go_simp
  try simp only [List.getElem_toArray, List.getElem_cons_zero, List.getElem_cons_succ, Act.put, List.setIfInBounds_toArray, List.set_cons_zero, List.set_cons_succ]
  refine wpAnyH_ready (rs := [6]) (by decide +kernel) (by simp) (AllReadyH.cons rfl (fun KQ hK => ?_) AllReadyH.nil)
  go_simp
  refine (PUT.out _ hH).mono ?_; rintro e0 Wb ⟨A', c', rfl, r, q⟩
  have hH := hH.trans (q.mono hH.size)
  obtain ⟨m, hm9⟩ : ∃ m, (bs ++ fF cm 3).length = m := ⟨_, rfl⟩
  rw [hm9] at r ⊢
  have R := Lib.hid r
  have HM := Lib.hid hm9
  clear q r hm9
  refine hK.out _ _ hH (fun _ => ?_)
  clear hK
  try simp only [List.setIfInBounds_toArray, List.set_cons_zero, List.set_cons_succ]
  refine wpAnyH_ready (rs := [7]) (by decide +kernel) (by simp) (AllReadyH.cons rfl (fun KQ hK => ?_) AllReadyH.nil)
  go_simp
  refine hK.out _ _ hH (fun _ => ?_)
  clear hK
  try simp only [List.setIfInBounds_toArray, List.set_cons_zero, List.set_cons_succ]
  refine wpAnyH_done (by decide +kernel) ?_ _
  have Q := Lib.hid (HB1.out.trans (hH.mono HB1.out.size))
  clear hH
  go_wp2_with fail
  go_ret
  unfold PutOk
  rw [HM.out]
  exact ⟨A', c', rfl, R.out, Q.out⟩
set_option maxRecDepth 100000 in
set_option maxHeartbeats 8000000 in
theorem wr5 {n : Nat} (A : Option Addr) (k : Nat) (bs : List Int) (cm : Cm) (W : World) (hB : Bxs W n 58 59 60) (hn : n + 2 < W.heap.size) (hr : RdB W A bs.length bs) (h0 : A = none → bs.length = 0 ∧ k = 0) (hl : bs.length ≤ 100000) (ok : cm.ok) :
    Calls Tryz.prog 99 #[.slice A bs.length k, .agg (ECm.cells cm).toArray, bx (n + 1), bx n] W (PutOk W (bs ++ fF cm 5)) := by
  obtain ⟨W1, hW1⟩ : ∃ U, W.alloc (.cells (ECm.cells cm).toArray 32) = U := ⟨_, rfl⟩
  obtain ⟨g, hg⟩ : ∃ g, W.heap.size = g := ⟨_, rfl⟩
  have b1 : Below W.heap.size W W1 := by rw [← hW1]; exact below_new _ _
  have x1 : ECm.Bx 32 W1 g cm := by rw [← hW1, ← hg]; exact gbx_new W _
  have hs := b1.size
  have KP := Lib.hid fun (U : World) (b : Below W1.heap.size W1 U) => ((hB.below b1 hn).below b (by omega)).p
  have KU := Lib.hid fun (U : World) (b : Below W1.heap.size W1 U) => ((hB.below b1 hn).below b (by omega)).u
  have PL := Lib.hid fun U => place5 g U
  have CV := Lib.hid fun (U : World) (b : Below W1.heap.size W1 U) => (show U.cell? ⟨g, 30, none⟩ = some (.bool cm.on) from (gbx_cell (gbx_below x1 b) 30).trans ((cm_tl cm 0).trans rfl))
  have PUT := Lib.hid fun (U : World) (b : Below W1.heap.size W1 U) => (show Calls Tryz.prog 59 #[.slice A bs.length k, .bool cm.on] U (PutOk U (bs ++ fF cm 5)) from
    (wflag15 A k bs cm.on U ((hr.below b1).below b) h0 (by omega)).mono fun E W' h => putok_made h)
  have HW1 := Lib.hid hW1
  have HG := Lib.hid hg
  have HB1 := Lib.hid b1
  clear hB hr h0 ok b1 x1 hs hW1
  obtain ⟨L, hL⟩ : ∃ L, bs.length = L := ⟨_, rfl⟩
  rw [hL] at PUT ⊢
  clear hL hl
  unfold fv at KP KU
  unfold bx
  go_enter Tryz.func99, Tryz.ntmps99
  go_wp2_with fail
  rw [HW1.out]
  try rw [HG.out]
  refine wp_region_held_drew (S := fun U => Below W1.heap.size W1 U) (by kernel_rfl) (Below.refl _ _).drew (fun hH => ?_)
  refine wpAnyH_take (i := 0) (v := .func (.func 59) #[] #[]) rfl (by kernel_rfl) (by kernel_rfl) (by kernel_rfl) (fun _ _ _ h => h) (.inl ⟨by rfl, ?_⟩) (by assumption) ?_
  · intro W hW; have k0 := KU.out W hW; go_simp
  try simp only [List.getElem_toArray, List.getElem_cons_zero, Act.put, List.setIfInBounds_toArray, List.set_cons_zero, List.set_cons_succ]
  refine wpAnyH_take (i := 1) (v := .slice A L k) rfl (by kernel_rfl) (by kernel_rfl) (by kernel_rfl) (fun _ _ _ h => h) (.inl ⟨by rfl, ?_⟩) (by assumption) ?_
  · intro W hW; go_simp
  try simp only [List.getElem_toArray, List.getElem_cons_zero, List.getElem_cons_succ, Act.put, List.setIfInBounds_toArray, List.set_cons_zero, List.set_cons_succ]
  refine wpAnyH_take (i := 2) (v := .func (.func 58) #[] #[]) rfl (by kernel_rfl) (by kernel_rfl) (by kernel_rfl) (fun _ _ _ h => h) (.inl ⟨by rfl, ?_⟩) (by assumption) ?_
  · intro W hW; have k0 := KP.out W hW; go_simp
  try simp only [List.getElem_toArray, List.getElem_cons_zero, List.getElem_cons_succ, Act.put, List.setIfInBounds_toArray, List.set_cons_zero, List.set_cons_succ]
  refine wpAnyH_ready (rs := [3]) (by decide +kernel) (by simp) (AllReadyH.cons rfl (fun KQ hK => ?_) AllReadyH.nil)
  go_simp
  refine (PL.out _).mono ?_; rintro e0 Wa ⟨rfl, rfl⟩
  refine hK.out _ _ hH (fun _ => ?_)
  clear hK
  try simp only [List.setIfInBounds_toArray, List.set_cons_zero, List.set_cons_succ]
  refine wpAnyH_take (i := 4) (v := .pointer (some ⟨g, 30, none⟩)) rfl (by kernel_rfl) (by kernel_rfl) (by kernel_rfl) (fun _ _ _ h => h) (.inl ⟨by rfl, ?_⟩) (by assumption) ?_
  · intro W hW; go_simp
  try simp only [List.getElem_toArray, List.getElem_cons_zero, List.getElem_cons_succ, Act.put, List.setIfInBounds_toArray, List.set_cons_zero, List.set_cons_succ]
  refine wpAnyH_take (i := 5) (v := .bool cm.on) rfl (by kernel_rfl) (by kernel_rfl) (by kernel_rfl) (fun _ _ _ h => h) (.inl ⟨by rfl, ?_⟩) (by assumption) ?_
  · intro W hW; have k0 := CV.out W hW; go_simp
  try simp only [List.getElem_toArray, List.getElem_cons_zero, List.getElem_cons_succ, Act.put, List.setIfInBounds_toArray, List.set_cons_zero, List.set_cons_succ]
  refine wpAnyH_ready (rs := [6]) (by decide +kernel) (by simp) (AllReadyH.cons rfl (fun KQ hK => ?_) AllReadyH.nil)
  go_simp
  refine (PUT.out _ hH).mono ?_; rintro e0 Wb ⟨A', c', rfl, r, q⟩
  have hH := hH.trans (q.mono hH.size)
  obtain ⟨m, hm9⟩ : ∃ m, (bs ++ fF cm 5).length = m := ⟨_, rfl⟩
  rw [hm9] at r ⊢
  have R := Lib.hid r
  have HM := Lib.hid hm9
  clear q r hm9
  refine hK.out _ _ hH (fun _ => ?_)
  clear hK
  try simp only [List.setIfInBounds_toArray, List.set_cons_zero, List.set_cons_succ]
  refine wpAnyH_ready (rs := [7]) (by decide +kernel) (by simp) (AllReadyH.cons rfl (fun KQ hK => ?_) AllReadyH.nil)
  go_simp
  refine hK.out _ _ hH (fun _ => ?_)
  clear hK
  try simp only [List.setIfInBounds_toArray, List.set_cons_zero, List.set_cons_succ]
  refine wpAnyH_done (by decide +kernel) ?_ _
  have Q := Lib.hid (HB1.out.trans (hH.mono HB1.out.size))
  clear hH
  go_wp2_with fail
  go_ret
  unfold PutOk
  rw [HM.out]
  exact ⟨A', c', rfl, R.out, Q.out⟩
set_option maxRecDepth 100000 in
set_option maxHeartbeats 8000000 in
theorem rd3 {n B g gc : Nat} {w W : World} {cm : Cm} {bs : List Int} {e : Int} (h : Tq B w g gc W cm bs e) (hB : Bxs W n 52 39 28) (hn : gc < n) (hn2 : n + 2 < W.heap.size) :
    Calls Tryz.prog 91 #[bx g, bx gc, bx (n + 2), bx n] W fun E W' => E = .returned (.tuple #[]) ∧ Tq B w g gc W' (rdF cm bs e 3).1 (rdF cm bs e 3).2.1 (rdF cm bs e 3).2.2 ∧ W.heap.size ≤ W'.heap.size ∧ ∀ j, gc < j → j < W.heap.size → W'.heap[j]? = W.heap[j]? := by
  obtain ⟨V, hV⟩ : ∃ V, W.drew = V := ⟨_, rfl⟩
  have eV : V.heap = W.heap := by rw [← hV]; rfl
  replace h : Tq B w g gc V cm bs e := by rw [← hV]; exact h.below (Below.refl _ _).drew
  replace hB : Bxs V n 52 39 28 := by rw [← hV]; exact hB.below (Below.refl _ _).drew hn2
  rw [← eV] at hn2
  obtain ⟨A, m, k, rq, hA⟩ := h.rq
  have lt := h.lt
  have NB := iR_by h.by' e
  have TKC := int_any g m k A bs e V rq h.by' (by have := rq.r.1; have := h.len; omega)
  rw [show zz (sR bs e top).1 = (iR bs e).1 from rfl, show (sR bs e top).2.1 = (iR bs e).2.1 from rfl, show (sR bs e top).2.2 = (iR bs e).2.2 from rfl] at TKC
  obtain ⟨⟨v, b1, e1⟩, hr⟩ : ∃ r, iR bs e = r := ⟨_, rfl⟩
  rw [hr] at TKC NB
  dsimp only at TKC NB
  have ER : rdF cm bs e 3 = ({ cm with am := v }, b1, e1) := by
    show (({ cm with am := (iR bs e).1 } : Cm), (iR bs e).2) = _
    rw [hr]
  rw [ER]
  dsimp only
  have PL := Lib.hid fun U => place3 gc U
  have TK := Lib.hid TKC
  have S0 : V.cell? ⟨n, 0, none⟩ = some (fv 52) ∧ V.cell? ⟨n + 2, 0, none⟩ = some (fv 28) := ⟨hB.p, hB.k⟩
  have KS := Lib.hid fun (U : World) (f : ∀ j, gc < j → j < V.heap.size → U.heap[j]? = V.heap[j]?) => (show U.cell? ⟨n, 0, none⟩ = some (fv 52) ∧ U.cell? ⟨n + 2, 0, none⟩ = some (fv 28) from
    ⟨by rw [← S0.1]; unfold World.cell?; rw [f n hn (by omega)], by rw [← S0.2]; unfold World.cell?; rw [f (n + 2) (by omega) hn2]⟩)
  have HT := Lib.hid h
  have HA := Lib.hid hA
  have NBH := Lib.hid NB
  have LT := Lib.hid lt
  clear h hA TKC hB NB rq hr ER lt
  unfold fv at S0 KS
  unfold bx
  go_enter Tryz.func91, Tryz.ntmps91
  refine wp_region_held_drew (S := fun U => U.cell? ⟨n, 0, none⟩ = some (.func (.func 52) #[] #[]) ∧ U.cell? ⟨n + 2, 0, none⟩ = some (.func (.func 28) #[] #[])) (by kernel_rfl) (by rw [hV]; exact S0) (fun hH => ?_)
  refine wpAnyH_take (i := 0) (v := .func (.func 52) #[] #[]) rfl (by kernel_rfl) (by kernel_rfl) (by kernel_rfl) (fun _ _ _ h => h) (.inl ⟨by rfl, ?_⟩) (by assumption) ?_
  · intro W hW; have k0 := hW.1; go_simp
  try simp only [List.getElem_toArray, List.getElem_cons_zero, Act.put, List.setIfInBounds_toArray, List.set_cons_zero, List.set_cons_succ]
  refine wpAnyH_take (i := 1) (v := .pointer (some ⟨gc, 0, none⟩)) rfl (by kernel_rfl) (by kernel_rfl) (by kernel_rfl) (fun _ _ _ h => h) (.inl ⟨by rfl, ?_⟩) (by assumption) ?_
  · intro W hW; go_simp
  try simp only [List.getElem_toArray, List.getElem_cons_zero, List.getElem_cons_succ, Act.put, List.setIfInBounds_toArray, List.set_cons_zero, List.set_cons_succ]
  refine wpAnyH_take (i := 3) (v := .func (.func 28) #[] #[]) rfl (by kernel_rfl) (by kernel_rfl) (by kernel_rfl) (fun _ _ _ h => h) (.inl ⟨by rfl, ?_⟩) (by assumption) ?_
  · intro W hW; have k0 := hW.2; go_simp
  try simp only [List.getElem_toArray, List.getElem_cons_zero, List.getElem_cons_succ, Act.put, List.setIfInBounds_toArray, List.set_cons_zero, List.set_cons_succ]
  refine wpAnyH_take (i := 4) (v := .pointer (some ⟨g, 0, none⟩)) rfl (by kernel_rfl) (by kernel_rfl) (by kernel_rfl) (fun _ _ _ h => h) (.inl ⟨by rfl, ?_⟩) (by assumption) ?_
  · intro W hW; go_simp
  try simp only [List.getElem_toArray, List.getElem_cons_zero, List.getElem_cons_succ, Act.put, List.setIfInBounds_toArray, List.set_cons_zero, List.set_cons_succ]
  rw [hV]
  refine wpAnyH_ready (rs := [2]) (by decide +kernel) (by simp) (AllReadyH.cons rfl (fun KQ hK => ?_) AllReadyH.nil)
  go_simp
  refine (PL.out _).mono ?_; rintro e0 Wp ⟨rfl, rfl⟩
  refine hK.out _ _ S0 (fun _ => ?_)
  clear hK
  try simp only [List.setIfInBounds_toArray, List.set_cons_zero, List.set_cons_succ]
  refine wpAnyH_ready (rs := [5]) (by decide +kernel) (by simp) (AllReadyH.cons rfl (fun KQ hK => ?_) AllReadyH.nil)
  go_simp
  refine TK.out.mono ?_; rintro e0 Wa ⟨rfl, d⟩
  have SZ := Lib.hid d.2.size
  have KE : Hid (∀ j, gc < j → j < V.heap.size → Wa.heap[j]? = V.heap[j]?) := Lib.hid fun j hj hj2 => d.2.block j hj2 (by have := LT.out; simp; omega)
  have T1 := Lib.hid (HT.out.call HA.out d NBH.out.1 NBH.out.2)
  clear d TK
  refine hK.out _ _ (KS.out _ KE.out) (fun _ => ?_)
  clear hK
  try simp only [List.setIfInBounds_toArray, List.set_cons_zero, List.set_cons_succ]
  refine wpAnyH_take (i := 6) (v := .pointer (some ⟨gc, 4, none⟩)) rfl (by kernel_rfl) (by kernel_rfl) (by kernel_rfl) (fun _ _ _ h => h) (.inl ⟨by rfl, ?_⟩) (by assumption) ?_
  · intro W hW; go_simp
  try simp only [List.getElem_toArray, List.getElem_cons_zero, List.getElem_cons_succ, Act.put, List.setIfInBounds_toArray, List.set_cons_zero, List.set_cons_succ]
  have hcell : Wa.cell? ⟨gc, 4, none⟩ = some (.int .i64 cm.am) := (gbx_cell T1.out.box 4).trans ((cm_hd cm (i := 4) (by omega)).trans rfl)
  have hfree : Wa.frozen? ⟨gc, 4, none⟩ = false := gbx_fz T1.out.box 4
  refine wpAnyH_ready (rs := [7]) (by decide +kernel) (by simp) (AllReadyH.cons rfl (fun KQ hK => ?_) AllReadyH.nil)
  go_simp
  refine hK.out _ _ (KS.out _ fun j hj hj2 => (heap_setCell_other _ _ _ _ (by show j ≠ gc; omega)).trans (KE.out j hj hj2)) (fun _ => ?_)
  clear hK hcell hfree
  try simp only [List.setIfInBounds_toArray, List.set_cons_zero, List.set_cons_succ]
  refine wpAnyH_done (by decide +kernel) ?_ _
  clear hH
  go_wp2_with fail
  go_end0
  rw [← eV]
  exact ⟨rfl, T1.out.put (Wt.cm_hset (i := 4) (by omega) rfl rfl rfl), by simpa using SZ.out, fun j hj hj2 => (heap_setCell_other _ _ _ _ (by show j ≠ gc; omega)).trans (KE.out j hj hj2)⟩
set_option maxRecDepth 100000 in
set_option maxHeartbeats 8000000 in
theorem ca3 {n gc : Nat} {W : World} (s c : Cm) (hx : ECm.Bx 32 W gc c) (hB : Bxs W n 52 39 28) (hn : gc < n) (hn2 : n + 2 < W.heap.size) :
    Calls Tryz.prog 92 #[.agg (ECm.cells s).toArray, bx gc, bx n] W fun E W' => E = .returned (.tuple #[]) ∧ ECm.Bx 32 W' gc (cpF s c 3) ∧ Below gc W W' ∧ ∀ j, gc < j → j < W.heap.size → W'.heap[j]? = W.heap[j]? := by
  obtain ⟨W1, hW1⟩ : ∃ U, W.alloc (.cells (ECm.cells s).toArray 32) = U := ⟨_, rfl⟩
  obtain ⟨g, hg⟩ : ∃ g, W.heap.size = g := ⟨_, rfl⟩
  have b1 : Below W.heap.size W W1 := by rw [← hW1]; exact below_new _ _
  have x1 : ECm.Bx 32 W1 g s := by rw [← hW1, ← hg]; exact gbx_new W _
  obtain ⟨V, hV⟩ : ∃ V, W1.drew = V := ⟨_, rfl⟩
  replace x1 : ECm.Bx 32 V g s := by rw [← hV]; exact gbx_below x1 (Below.refl _ _).drew
  replace b1 : Below W.heap.size W V := by rw [← hV]; exact b1.drew
  have HX := Lib.hid (gbx_below hx b1)
  have B1 := Lib.hid (b1.mono (show gc ≤ W.heap.size by omega))
  have K1 : Hid (∀ j, j < W.heap.size → V.heap[j]? = W.heap[j]?) := Lib.hid fun j hj => b1.block j hj
  have EQ : Hid (ECm.cells (cpF s c 3) = (ECm.cells c).set 4 (.int .i64 s.am)) := Lib.hid (Wt.cm_hset (i := 4) (by omega) rfl rfl rfl)
  have PL := Lib.hid fun p U => place3 p U
  have c0 : V.cell? ⟨n, 0, none⟩ = some (fv 52) ∧ V.cell? ⟨g, 4, none⟩ = some (.int .i64 s.am) := ⟨(hB.below b1 hn2).p, (gbx_cell x1 4).trans ((cm_hd s (i := 4) (by omega)).trans rfl)⟩
  have KS := Lib.hid fun (U : World) (f : ∀ j, j ≠ gc → U.heap[j]? = V.heap[j]?) => (show U.cell? ⟨n, 0, none⟩ = some (fv 52) ∧ U.cell? ⟨g, 4, none⟩ = some (.int .i64 s.am) from
    ⟨by rw [← c0.1]; unfold World.cell?; rw [f n (by omega)], by rw [← c0.2]; unfold World.cell?; rw [f g (by omega)]⟩)
  have HW1 := Lib.hid hW1
  have HG := Lib.hid hg
  clear hB hx b1 x1 hW1
  unfold fv at c0 KS
  unfold bx
  go_enter Tryz.func92, Tryz.ntmps92
  go_wp2_with fail
  rw [HW1.out]
  try rw [HG.out]
  refine wp_region_held_drew (S := fun U => U.cell? ⟨n, 0, none⟩ = some (.func (.func 52) #[] #[]) ∧ U.cell? ⟨g, 4, none⟩ = some (.int .i64 s.am)) (by kernel_rfl) (by rw [hV]; exact c0) (fun hH => ?_)
  refine wpAnyH_take (i := 0) (v := .func (.func 52) #[] #[]) rfl (by kernel_rfl) (by kernel_rfl) (by kernel_rfl) (fun _ _ _ h => h) (.inl ⟨by rfl, ?_⟩) (by assumption) ?_
  · intro W hW; have k0 := hW.1; go_simp
  try simp only [List.getElem_toArray, List.getElem_cons_zero, Act.put, List.setIfInBounds_toArray, List.set_cons_zero, List.set_cons_succ]
  refine wpAnyH_take (i := 1) (v := .pointer (some ⟨gc, 0, none⟩)) rfl (by kernel_rfl) (by kernel_rfl) (by kernel_rfl) (fun _ _ _ h => h) (.inl ⟨by rfl, ?_⟩) (by assumption) ?_
  · intro W hW; go_simp
  try simp only [List.getElem_toArray, List.getElem_cons_zero, List.getElem_cons_succ, Act.put, List.setIfInBounds_toArray, List.set_cons_zero, List.set_cons_succ]
  refine wpAnyH_take (i := 3) (v := .func (.func 52) #[] #[]) rfl (by kernel_rfl) (by kernel_rfl) (by kernel_rfl) (fun _ _ _ h => h) (.inl ⟨by rfl, ?_⟩) (by assumption) ?_
  · intro W hW; have k0 := hW.1; go_simp
  try simp only [List.getElem_toArray, List.getElem_cons_zero, List.getElem_cons_succ, Act.put, List.setIfInBounds_toArray, List.set_cons_zero, List.set_cons_succ]
  rw [hV]
  refine wpAnyH_ready (rs := [2]) (by decide +kernel) (by simp) (AllReadyH.cons rfl (fun KQ hK => ?_) AllReadyH.nil)
  go_simp
  refine (PL.out _ _).mono ?_; rintro e0 Wp ⟨rfl, rfl⟩
  refine hK.out _ _ c0 (fun _ => ?_)
  clear hK
  try simp only [List.setIfInBounds_toArray, List.set_cons_zero, List.set_cons_succ]
  refine wpAnyH_ready (rs := [4]) (by decide +kernel) (by simp) (AllReadyH.cons rfl (fun KQ hK => ?_) AllReadyH.nil)
  go_simp
  refine (PL.out _ _).mono ?_; rintro e0 Wp ⟨rfl, rfl⟩
  refine hK.out _ _ c0 (fun _ => ?_)
  clear hK
  try simp only [List.setIfInBounds_toArray, List.set_cons_zero, List.set_cons_succ]
  refine wpAnyH_take (i := 5) (v := .pointer (some ⟨g, 4, none⟩)) rfl (by kernel_rfl) (by kernel_rfl) (by kernel_rfl) (fun _ _ _ h => h) (.inl ⟨by rfl, ?_⟩) (by assumption) ?_
  · intro W hW; go_simp
  try simp only [List.getElem_toArray, List.getElem_cons_zero, List.getElem_cons_succ, Act.put, List.setIfInBounds_toArray, List.set_cons_zero, List.set_cons_succ]
  refine wpAnyH_take (i := 6) (v := .int .i64 s.am) rfl (by kernel_rfl) (by kernel_rfl) (by kernel_rfl) (fun _ _ _ h => h) (.inl ⟨by rfl, ?_⟩) (by assumption) ?_
  · intro W hW; have k0 := hW.2; go_simp
  try simp only [List.getElem_toArray, List.getElem_cons_zero, List.getElem_cons_succ, Act.put, List.setIfInBounds_toArray, List.set_cons_zero, List.set_cons_succ]
  refine wpAnyH_take (i := 7) (v := .pointer (some ⟨gc, 4, none⟩)) rfl (by kernel_rfl) (by kernel_rfl) (by kernel_rfl) (fun _ _ _ h => h) (.inl ⟨by rfl, ?_⟩) (by assumption) ?_
  · intro W hW; go_simp
  try simp only [List.getElem_toArray, List.getElem_cons_zero, List.getElem_cons_succ, Act.put, List.setIfInBounds_toArray, List.set_cons_zero, List.set_cons_succ]
  have hcell : V.cell? ⟨gc, 4, none⟩ = some (.int .i64 c.am) := (gbx_cell HX.out 4).trans ((cm_hd c (i := 4) (by omega)).trans rfl)
  have hfree : V.frozen? ⟨gc, 4, none⟩ = false := gbx_fz HX.out 4
  refine wpAnyH_ready (rs := [8]) (by decide +kernel) (by simp) (AllReadyH.cons rfl (fun KQ hK => ?_) AllReadyH.nil)
  go_simp
  refine hK.out _ _ (KS.out _ (carry_set HX.out EQ.out).2.2) (fun _ => ?_)
  clear hK hcell hfree
  try simp only [List.setIfInBounds_toArray, List.set_cons_zero, List.set_cons_succ]
  refine wpAnyH_done (by decide +kernel) ?_ _
  clear hH
  go_wp2_with fail
  go_end0
  exact ⟨rfl, (carry_set HX.out EQ.out).1, B1.out.trans ((carry_set HX.out EQ.out).2.1), fun j hj hj2 => ((carry_set HX.out EQ.out).2.2 j (by omega)).trans (K1.out j hj2)⟩
set_option maxRecDepth 100000 in
set_option maxHeartbeats 8000000 in
theorem rd5 {n B g gc : Nat} {w W : World} {cm : Cm} {bs : List Int} {e : Int} (h : Tq B w g gc W cm bs e) (hB : Bxs W n 58 59 60) (hn : gc < n) (hn2 : n + 2 < W.heap.size) :
    Calls Tryz.prog 100 #[bx g, bx gc, bx (n + 2), bx n] W fun E W' => E = .returned (.tuple #[]) ∧ Tq B w g gc W' (rdF cm bs e 5).1 (rdF cm bs e 5).2.1 (rdF cm bs e 5).2.2 ∧ W.heap.size ≤ W'.heap.size ∧ ∀ j, gc < j → j < W.heap.size → W'.heap[j]? = W.heap[j]? := by
  obtain ⟨V, hV⟩ : ∃ V, W.drew = V := ⟨_, rfl⟩
  have eV : V.heap = W.heap := by rw [← hV]; rfl
  replace h : Tq B w g gc V cm bs e := by rw [← hV]; exact h.below (Below.refl _ _).drew
  replace hB : Bxs V n 58 59 60 := by rw [← hV]; exact hB.below (Below.refl _ _).drew hn2
  rw [← eV] at hn2
  obtain ⟨A, m, k, rq, hA⟩ := h.rq
  have lt := h.lt
  have NB := Wt.fR_by15 h.by' e
  have TKC := flag_any g m k A bs e V rq h.by' (by have := rq.r.1; have := h.len; omega)
  obtain ⟨⟨v, b1, e1⟩, hr⟩ : ∃ r, fR bs e = r := ⟨_, rfl⟩
  rw [hr] at TKC NB
  dsimp only at TKC NB
  have ER : rdF cm bs e 5 = ({ cm with on := v }, b1, e1) := by
    show (({ cm with on := (fR bs e).1 } : Cm), (fR bs e).2) = _
    rw [hr]
  rw [ER]
  dsimp only
  have PL := Lib.hid fun U => place5 gc U
  have TK := Lib.hid TKC
  have S0 : V.cell? ⟨n, 0, none⟩ = some (fv 58) ∧ V.cell? ⟨n + 2, 0, none⟩ = some (fv 60) := ⟨hB.p, hB.k⟩
  have KS := Lib.hid fun (U : World) (f : ∀ j, gc < j → j < V.heap.size → U.heap[j]? = V.heap[j]?) => (show U.cell? ⟨n, 0, none⟩ = some (fv 58) ∧ U.cell? ⟨n + 2, 0, none⟩ = some (fv 60) from
    ⟨by rw [← S0.1]; unfold World.cell?; rw [f n hn (by omega)], by rw [← S0.2]; unfold World.cell?; rw [f (n + 2) (by omega) hn2]⟩)
  have HT := Lib.hid h
  have HA := Lib.hid hA
  have NBH := Lib.hid NB
  have LT := Lib.hid lt
  clear h hA TKC hB NB rq hr ER lt
  unfold fv at S0 KS
  unfold bx
  go_enter Tryz.func100, Tryz.ntmps100
  refine wp_region_held_drew (S := fun U => U.cell? ⟨n, 0, none⟩ = some (.func (.func 58) #[] #[]) ∧ U.cell? ⟨n + 2, 0, none⟩ = some (.func (.func 60) #[] #[])) (by kernel_rfl) (by rw [hV]; exact S0) (fun hH => ?_)
  refine wpAnyH_take (i := 0) (v := .func (.func 58) #[] #[]) rfl (by kernel_rfl) (by kernel_rfl) (by kernel_rfl) (fun _ _ _ h => h) (.inl ⟨by rfl, ?_⟩) (by assumption) ?_
  · intro W hW; have k0 := hW.1; go_simp
  try simp only [List.getElem_toArray, List.getElem_cons_zero, Act.put, List.setIfInBounds_toArray, List.set_cons_zero, List.set_cons_succ]
  refine wpAnyH_take (i := 1) (v := .pointer (some ⟨gc, 0, none⟩)) rfl (by kernel_rfl) (by kernel_rfl) (by kernel_rfl) (fun _ _ _ h => h) (.inl ⟨by rfl, ?_⟩) (by assumption) ?_
  · intro W hW; go_simp
  try simp only [List.getElem_toArray, List.getElem_cons_zero, List.getElem_cons_succ, Act.put, List.setIfInBounds_toArray, List.set_cons_zero, List.set_cons_succ]
  refine wpAnyH_take (i := 3) (v := .func (.func 60) #[] #[]) rfl (by kernel_rfl) (by kernel_rfl) (by kernel_rfl) (fun _ _ _ h => h) (.inl ⟨by rfl, ?_⟩) (by assumption) ?_
  · intro W hW; have k0 := hW.2; go_simp
  try simp only [List.getElem_toArray, List.getElem_cons_zero, List.getElem_cons_succ, Act.put, List.setIfInBounds_toArray, List.set_cons_zero, List.set_cons_succ]
  refine wpAnyH_take (i := 4) (v := .pointer (some ⟨g, 0, none⟩)) rfl (by kernel_rfl) (by kernel_rfl) (by kernel_rfl) (fun _ _ _ h => h) (.inl ⟨by rfl, ?_⟩) (by assumption) ?_
  · intro W hW; go_simp
  try simp only [List.getElem_toArray, List.getElem_cons_zero, List.getElem_cons_succ, Act.put, List.setIfInBounds_toArray, List.set_cons_zero, List.set_cons_succ]
  rw [hV]
  refine wpAnyH_ready (rs := [2]) (by decide +kernel) (by simp) (AllReadyH.cons rfl (fun KQ hK => ?_) AllReadyH.nil)
  go_simp
  refine (PL.out _).mono ?_; rintro e0 Wp ⟨rfl, rfl⟩
  refine hK.out _ _ S0 (fun _ => ?_)
  clear hK
  try simp only [List.setIfInBounds_toArray, List.set_cons_zero, List.set_cons_succ]
  refine wpAnyH_ready (rs := [5]) (by decide +kernel) (by simp) (AllReadyH.cons rfl (fun KQ hK => ?_) AllReadyH.nil)
  go_simp
  refine TK.out.mono ?_; rintro e0 Wa ⟨rfl, d⟩
  have SZ := Lib.hid d.2.size
  have KE : Hid (∀ j, gc < j → j < V.heap.size → Wa.heap[j]? = V.heap[j]?) := Lib.hid fun j hj hj2 => d.2.block j hj2 (by have := LT.out; simp; omega)
  have T1 := Lib.hid (HT.out.call HA.out d NBH.out.1 NBH.out.2)
  clear d TK
  refine hK.out _ _ (KS.out _ KE.out) (fun _ => ?_)
  clear hK
  try simp only [List.setIfInBounds_toArray, List.set_cons_zero, List.set_cons_succ]
  refine wpAnyH_take (i := 6) (v := .pointer (some ⟨gc, 30, none⟩)) rfl (by kernel_rfl) (by kernel_rfl) (by kernel_rfl) (fun _ _ _ h => h) (.inl ⟨by rfl, ?_⟩) (by assumption) ?_
  · intro W hW; go_simp
  try simp only [List.getElem_toArray, List.getElem_cons_zero, List.getElem_cons_succ, Act.put, List.setIfInBounds_toArray, List.set_cons_zero, List.set_cons_succ]
  have hcell : Wa.cell? ⟨gc, 30, none⟩ = some (.bool cm.on) := (gbx_cell T1.out.box 30).trans ((cm_tl cm 0).trans rfl)
  have hfree : Wa.frozen? ⟨gc, 30, none⟩ = false := gbx_fz T1.out.box 30
  refine wpAnyH_ready (rs := [7]) (by decide +kernel) (by simp) (AllReadyH.cons rfl (fun KQ hK => ?_) AllReadyH.nil)
  go_simp
  refine hK.out _ _ (KS.out _ fun j hj hj2 => (heap_setCell_other _ _ _ _ (by show j ≠ gc; omega)).trans (KE.out j hj hj2)) (fun _ => ?_)
  clear hK hcell hfree
  try simp only [List.setIfInBounds_toArray, List.set_cons_zero, List.set_cons_succ]
  refine wpAnyH_done (by decide +kernel) ?_ _
  clear hH
  go_wp2_with fail
  go_end0
  rw [← eV]
  exact ⟨rfl, T1.out.put (Wt.cm_tset (i := 0) (by omega) rfl rfl rfl), by simpa using SZ.out, fun j hj hj2 => (heap_setCell_other _ _ _ _ (by show j ≠ gc; omega)).trans (KE.out j hj hj2)⟩
set_option maxRecDepth 100000 in
set_option maxHeartbeats 8000000 in
theorem ca5 {n gc : Nat} {W : World} (s c : Cm) (hx : ECm.Bx 32 W gc c) (hB : Bxs W n 58 59 60) (hn : gc < n) (hn2 : n + 2 < W.heap.size) :
    Calls Tryz.prog 101 #[.agg (ECm.cells s).toArray, bx gc, bx n] W fun E W' => E = .returned (.tuple #[]) ∧ ECm.Bx 32 W' gc (cpF s c 5) ∧ Below gc W W' ∧ ∀ j, gc < j → j < W.heap.size → W'.heap[j]? = W.heap[j]? := by
  obtain ⟨W1, hW1⟩ : ∃ U, W.alloc (.cells (ECm.cells s).toArray 32) = U := ⟨_, rfl⟩
  obtain ⟨g, hg⟩ : ∃ g, W.heap.size = g := ⟨_, rfl⟩
  have b1 : Below W.heap.size W W1 := by rw [← hW1]; exact below_new _ _
  have x1 : ECm.Bx 32 W1 g s := by rw [← hW1, ← hg]; exact gbx_new W _
  obtain ⟨V, hV⟩ : ∃ V, W1.drew = V := ⟨_, rfl⟩
  replace x1 : ECm.Bx 32 V g s := by rw [← hV]; exact gbx_below x1 (Below.refl _ _).drew
  replace b1 : Below W.heap.size W V := by rw [← hV]; exact b1.drew
  have HX := Lib.hid (gbx_below hx b1)
  have B1 := Lib.hid (b1.mono (show gc ≤ W.heap.size by omega))
  have K1 : Hid (∀ j, j < W.heap.size → V.heap[j]? = W.heap[j]?) := Lib.hid fun j hj => b1.block j hj
  have EQ : Hid (ECm.cells (cpF s c 5) = (ECm.cells c).set 30 (.bool s.on)) := Lib.hid (Wt.cm_tset (i := 0) (by omega) rfl rfl rfl)
  have PL := Lib.hid fun p U => place5 p U
  have c0 : V.cell? ⟨n, 0, none⟩ = some (fv 58) ∧ V.cell? ⟨g, 30, none⟩ = some (.bool s.on) := ⟨(hB.below b1 hn2).p, (gbx_cell x1 30).trans ((cm_tl s 0).trans rfl)⟩
  have KS := Lib.hid fun (U : World) (f : ∀ j, j ≠ gc → U.heap[j]? = V.heap[j]?) => (show U.cell? ⟨n, 0, none⟩ = some (fv 58) ∧ U.cell? ⟨g, 30, none⟩ = some (.bool s.on) from
    ⟨by rw [← c0.1]; unfold World.cell?; rw [f n (by omega)], by rw [← c0.2]; unfold World.cell?; rw [f g (by omega)]⟩)
  have HW1 := Lib.hid hW1
  have HG := Lib.hid hg
  clear hB hx b1 x1 hW1
  unfold fv at c0 KS
  unfold bx
  go_enter Tryz.func101, Tryz.ntmps101
  go_wp2_with fail
  rw [HW1.out]
  try rw [HG.out]
  refine wp_region_held_drew (S := fun U => U.cell? ⟨n, 0, none⟩ = some (.func (.func 58) #[] #[]) ∧ U.cell? ⟨g, 30, none⟩ = some (.bool s.on)) (by kernel_rfl) (by rw [hV]; exact c0) (fun hH => ?_)
  refine wpAnyH_take (i := 0) (v := .func (.func 58) #[] #[]) rfl (by kernel_rfl) (by kernel_rfl) (by kernel_rfl) (fun _ _ _ h => h) (.inl ⟨by rfl, ?_⟩) (by assumption) ?_
  · intro W hW; have k0 := hW.1; go_simp
  try simp only [List.getElem_toArray, List.getElem_cons_zero, Act.put, List.setIfInBounds_toArray, List.set_cons_zero, List.set_cons_succ]
  refine wpAnyH_take (i := 1) (v := .pointer (some ⟨gc, 0, none⟩)) rfl (by kernel_rfl) (by kernel_rfl) (by kernel_rfl) (fun _ _ _ h => h) (.inl ⟨by rfl, ?_⟩) (by assumption) ?_
  · intro W hW; go_simp
  try simp only [List.getElem_toArray, List.getElem_cons_zero, List.getElem_cons_succ, Act.put, List.setIfInBounds_toArray, List.set_cons_zero, List.set_cons_succ]
  refine wpAnyH_take (i := 3) (v := .func (.func 58) #[] #[]) rfl (by kernel_rfl) (by kernel_rfl) (by kernel_rfl) (fun _ _ _ h => h) (.inl ⟨by rfl, ?_⟩) (by assumption) ?_
  · intro W hW; have k0 := hW.1; go_simp
  try simp only [List.getElem_toArray, List.getElem_cons_zero, List.getElem_cons_succ, Act.put, List.setIfInBounds_toArray, List.set_cons_zero, List.set_cons_succ]
  rw [hV]
  refine wpAnyH_ready (rs := [2]) (by decide +kernel) (by simp) (AllReadyH.cons rfl (fun KQ hK => ?_) AllReadyH.nil)
  go_simp
  refine (PL.out _ _).mono ?_; rintro e0 Wp ⟨rfl, rfl⟩
  refine hK.out _ _ c0 (fun _ => ?_)
  clear hK
  try simp only [List.setIfInBounds_toArray, List.set_cons_zero, List.set_cons_succ]
  refine wpAnyH_ready (rs := [4]) (by decide +kernel) (by simp) (AllReadyH.cons rfl (fun KQ hK => ?_) AllReadyH.nil)
  go_simp
  refine (PL.out _ _).mono ?_; rintro e0 Wp ⟨rfl, rfl⟩
  refine hK.out _ _ c0 (fun _ => ?_)
  clear hK
  try simp only [List.setIfInBounds_toArray, List.set_cons_zero, List.set_cons_succ]
  refine wpAnyH_take (i := 5) (v := .pointer (some ⟨g, 30, none⟩)) rfl (by kernel_rfl) (by kernel_rfl) (by kernel_rfl) (fun _ _ _ h => h) (.inl ⟨by rfl, ?_⟩) (by assumption) ?_
  · intro W hW; go_simp
  try simp only [List.getElem_toArray, List.getElem_cons_zero, List.getElem_cons_succ, Act.put, List.setIfInBounds_toArray, List.set_cons_zero, List.set_cons_succ]
  refine wpAnyH_take (i := 6) (v := .bool s.on) rfl (by kernel_rfl) (by kernel_rfl) (by kernel_rfl) (fun _ _ _ h => h) (.inl ⟨by rfl, ?_⟩) (by assumption) ?_
  · intro W hW; have k0 := hW.2; go_simp
  try simp only [List.getElem_toArray, List.getElem_cons_zero, List.getElem_cons_succ, Act.put, List.setIfInBounds_toArray, List.set_cons_zero, List.set_cons_succ]
  refine wpAnyH_take (i := 7) (v := .pointer (some ⟨gc, 30, none⟩)) rfl (by kernel_rfl) (by kernel_rfl) (by kernel_rfl) (fun _ _ _ h => h) (.inl ⟨by rfl, ?_⟩) (by assumption) ?_
  · intro W hW; go_simp
  try simp only [List.getElem_toArray, List.getElem_cons_zero, List.getElem_cons_succ, Act.put, List.setIfInBounds_toArray, List.set_cons_zero, List.set_cons_succ]
  have hcell : V.cell? ⟨gc, 30, none⟩ = some (.bool c.on) := (gbx_cell HX.out 30).trans ((cm_tl c 0).trans rfl)
  have hfree : V.frozen? ⟨gc, 30, none⟩ = false := gbx_fz HX.out 30
  refine wpAnyH_ready (rs := [8]) (by decide +kernel) (by simp) (AllReadyH.cons rfl (fun KQ hK => ?_) AllReadyH.nil)
  go_simp
  refine hK.out _ _ (KS.out _ (carry_set HX.out EQ.out).2.2) (fun _ => ?_)
  clear hK hcell hfree
  try simp only [List.setIfInBounds_toArray, List.set_cons_zero, List.set_cons_succ]
  refine wpAnyH_done (by decide +kernel) ?_ _
  clear hH
  go_wp2_with fail
  go_end0
  exact ⟨rfl, (carry_set HX.out EQ.out).1, B1.out.trans ((carry_set HX.out EQ.out).2.1), fun j hj hj2 => ((carry_set HX.out EQ.out).2.2 j (by omega)).trans (K1.out j hj2)⟩
end Go.Proofs.YtbmlpokkojhhjaaGreat.Wz
