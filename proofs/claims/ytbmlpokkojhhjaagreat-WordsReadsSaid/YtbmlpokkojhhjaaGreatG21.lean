/- The program's words: a part's three functions: a field written, read, carried over: fields 4 (by genWfc.py). -/
import Derived.Test.YtbmlpokkojhhjaaGreatG18
namespace Go.Proofs.YtbmlpokkojhhjaaGreat.Wz
open Go.RowKit
set_option linter.unusedVariables false
set_option linter.unusedSimpArgs false

set_option maxRecDepth 100000 in
set_option maxHeartbeats 8000000 in
theorem wr4 {n : Nat} (A : Option Addr) (k : Nat) (bs : List Int) (cm : Cm) (W : World) (hB : Bxs W n 54 55 56) (hn : n + 2 < W.heap.size) (hr : RdB W A bs.length bs) (h0 : A = none → bs.length = 0 ∧ k = 0) (hl : bs.length ≤ 100000) (ok : cm.ok) (hm : mayB cm.sp = true) :
    Calls Tryz.prog 93 #[.slice A bs.length k, .agg (ECm.cells cm).toArray, bx (n + 1), bx n] W (PutOk W (bs ++ fF cm 4)) := by
  obtain ⟨W1, hW1⟩ : ∃ U, W.alloc (.cells (ECm.cells cm).toArray 32) = U := ⟨_, rfl⟩
  obtain ⟨g, hg⟩ : ∃ g, W.heap.size = g := ⟨_, rfl⟩
  have b1 : Below W.heap.size W W1 := by rw [← hW1]; exact below_new _ _
  have x1 : ECm.Bx 32 W1 g cm := by rw [← hW1, ← hg]; exact gbx_new W _
  have hs := b1.size
  have KP := Lib.hid fun (U : World) (b : Below W1.heap.size W1 U) => ((hB.below b1 hn).below b (by omega)).p
  have KU := Lib.hid fun (U : World) (b : Below W1.heap.size W1 U) => ((hB.below b1 hn).below b (by omega)).u
  have PL := Lib.hid fun U => place4 g U
  have CV := Lib.hid fun (U : World) (b : Below W1.heap.size W1 U) => sp_rng15 (gbx_below x1 b)
  have PUT := Lib.hid fun (U : World) (b : Below W1.heap.size W1 U) => (show Calls Tryz.prog 55 #[.slice A bs.length k, .agg cm.sp.cells] U (PutOk U (bs ++ fF cm 4)) from
    pput_yes A bs.length k bs cm.sp U ((hr.below b1).below b) h0 hl ok.sp hm)
  have HW1 := Lib.hid hW1
  have HG := Lib.hid hg
  have HB1 := Lib.hid b1
  clear hB hr h0 ok b1 x1 hs hW1 hm
  obtain ⟨L, hL⟩ : ∃ L, bs.length = L := ⟨_, rfl⟩
  rw [hL] at PUT ⊢
  clear hL hl
  unfold fv at KP KU
  unfold bx
  go_enter Tryz.func93, Tryz.ntmps93
  go_wp2_with fail
  rw [HW1.out]
  try rw [HG.out]
  refine wp_region_held_drew (S := fun U => Below W1.heap.size W1 U) (by kernel_rfl) (Below.refl _ _).drew (fun hH => ?_)
  refine wpAnyH_take (i := 0) (v := .func (.func 55) #[] #[]) rfl (by kernel_rfl) (by kernel_rfl) (by kernel_rfl) (fun _ _ _ h => h) (.inl ⟨by rfl, ?_⟩) (by assumption) ?_
  · intro W hW; have k0 := KU.out W hW; go_simp
  try simp only [List.getElem_toArray, List.getElem_cons_zero, Act.put, List.setIfInBounds_toArray, List.set_cons_zero, List.set_cons_succ]
  refine wpAnyH_take (i := 1) (v := .slice A L k) rfl (by kernel_rfl) (by kernel_rfl) (by kernel_rfl) (fun _ _ _ h => h) (.inl ⟨by rfl, ?_⟩) (by assumption) ?_
  · intro W hW; go_simp
  try simp only [List.getElem_toArray, List.getElem_cons_zero, List.getElem_cons_succ, Act.put, List.setIfInBounds_toArray, List.set_cons_zero, List.set_cons_succ]
  refine wpAnyH_take (i := 2) (v := .func (.func 54) #[] #[]) rfl (by kernel_rfl) (by kernel_rfl) (by kernel_rfl) (fun _ _ _ h => h) (.inl ⟨by rfl, ?_⟩) (by assumption) ?_
  · intro W hW; have k0 := KP.out W hW; go_simp
  try simp only [List.getElem_toArray, List.getElem_cons_zero, List.getElem_cons_succ, Act.put, List.setIfInBounds_toArray, List.set_cons_zero, List.set_cons_succ]
  refine wpAnyH_ready (rs := [3]) (by decide +kernel) (by simp) (AllReadyH.cons rfl (fun KQ hK => ?_) AllReadyH.nil)
  go_simp
  refine (PL.out _).mono ?_; rintro e0 Wa ⟨rfl, rfl⟩
  refine hK.out _ _ hH (fun _ => ?_)
  clear hK
  try simp only [List.setIfInBounds_toArray, List.set_cons_zero, List.set_cons_succ]
  refine wpAnyH_take (i := 4) (v := .pointer (some ⟨g, 5, none⟩)) rfl (by kernel_rfl) (by kernel_rfl) (by kernel_rfl) (fun _ _ _ h => h) (.inl ⟨by rfl, ?_⟩) (by assumption) ?_
  · intro W hW; go_simp
  try simp only [List.getElem_toArray, List.getElem_cons_zero, List.getElem_cons_succ, Act.put, List.setIfInBounds_toArray, List.set_cons_zero, List.set_cons_succ]
  refine wpAnyH_take (i := 5) (v := .agg cm.sp.cells) rfl (by kernel_rfl) (by kernel_rfl) (by kernel_rfl) (fun _ _ _ h => h) (yieldsIf_load_mid (by rfl) 29 (.tmp 11) rfl g 5 rfl cm.sp.cellL _ (fun U hU => CV.out U hU) Tryz.underlying29 rfl (by rw [info_sp, sp_len15 cm.len])) (by assumption) ?_
  try simp only [List.getElem_toArray, List.getElem_cons_zero, List.getElem_cons_succ, Act.put, List.setIfInBounds_toArray, List.set_cons_zero, List.set_cons_succ]
  refine wpAnyH_ready (rs := [6]) (by decide +kernel) (by simp) (AllReadyH.cons rfl (fun KQ hK => ?_) AllReadyH.nil)
  go_simp
  refine (PUT.out _ hH).mono ?_; rintro e0 Wb ⟨A', c', rfl, r, q⟩
  have hH := hH.trans (q.mono hH.size)
  obtain ⟨m, hm9⟩ : ∃ m, (bs ++ fF cm 4).length = m := ⟨_, rfl⟩
  rw [hm9] at r ⊢
  have R := Lib.hid r
  have HM := Lib.hid hm9
  clear q r hm9
  refine hK.out _ _ hH (fun _ => ?_)
  clear hK
  try simp only [List.setIfInBounds_toArray, List.set_cons_zero, List.set_cons_succ]
  refine wpAnyH_ready (rs := [7]) (by decide +kernel) (by simp) (AllReadyH.cons rfl (fun KQ hK => ?_) AllReadyH.nil)
  go_simp
  refine hK.out _ _ hH (fun _ => ?_)
  clear hK
  try simp only [List.setIfInBounds_toArray, List.set_cons_zero, List.set_cons_succ]
  refine wpAnyH_done (by decide +kernel) ?_ _
  have Q := Lib.hid (HB1.out.trans (hH.mono HB1.out.size))
  clear hH
  go_wp2_with fail
  go_ret
  unfold PutOk
  rw [HM.out]
  exact ⟨A', c', rfl, R.out, Q.out⟩
set_option maxRecDepth 100000 in
set_option maxHeartbeats 8000000 in
theorem rd4 {n B g gc : Nat} {w W : World} {cm : Cm} {bs : List Int} {e : Int} (h : Tq B w g gc W cm bs e) (hB : Bxs W n 54 55 56) (hn : gc < n) (hn2 : n + 2 < W.heap.size) :
    Calls Tryz.prog 94 #[bx g, bx gc, bx (n + 2), bx n] W fun E W' => E = .returned (.tuple #[]) ∧ Tq B w g gc W' (rdF cm bs e 4).1 (rdF cm bs e 4).2.1 (rdF cm bs e 4).2.2 ∧ W.heap.size ≤ W'.heap.size ∧ ∀ j, gc < j → j < W.heap.size → W'.heap[j]? = W.heap[j]? := by
  obtain ⟨V, hV⟩ : ∃ V, W.drew = V := ⟨_, rfl⟩
  have eV : V.heap = W.heap := by rw [← hV]; rfl
  replace h : Tq B w g gc V cm bs e := by rw [← hV]; exact h.below (Below.refl _ _).drew
  replace hB : Bxs V n 54 55 56 := by rw [← hV]; exact hB.below (Below.refl _ _).drew hn2
  rw [← eV] at hn2
  obtain ⟨A, m, k, rq, hA⟩ := h.rq
  have lt := h.lt
  have NB := took_by15 h.by' e
  have SL := tK_len bs e
  obtain ⟨⟨v, b1, e1⟩, hr⟩ : ∃ r, took bs e = r := ⟨_, rfl⟩
  have TKC := ptake_any g m k A bs e V rq h.by' (by have := rq.r.1; have := h.len; omega) (fun a ha _ => by have := hA a ha; have := h.size; omega)
  unfold TookOk at TKC
  rw [hr] at TKC NB SL
  dsimp only at TKC NB SL
  have ER : rdF cm bs e 4 = ({ cm with sp := v, len := SL }, b1, e1) := by
    have e2 : took bs e = (v, b1, e1) := hr
    show (({ cm with sp := (took bs e).1, len := tK_len bs e } : Cm), (took bs e).2) = _
    simp only [e2]
  rw [ER]
  dsimp only
  have PL := Lib.hid fun U => place4 gc U
  have TK := Lib.hid TKC
  have S0 : V.cell? ⟨n, 0, none⟩ = some (fv 54) ∧ V.cell? ⟨n + 2, 0, none⟩ = some (fv 56) := ⟨hB.p, hB.k⟩
  have KS := Lib.hid fun (U : World) (f : ∀ j, gc < j → j < V.heap.size → U.heap[j]? = V.heap[j]?) => (show U.cell? ⟨n, 0, none⟩ = some (fv 54) ∧ U.cell? ⟨n + 2, 0, none⟩ = some (fv 56) from
    ⟨by rw [← S0.1]; unfold World.cell?; rw [f n hn (by omega)], by rw [← S0.2]; unfold World.cell?; rw [f (n + 2) (by omega) hn2]⟩)
  have HT := Lib.hid h
  have HA := Lib.hid hA
  have NBH := Lib.hid NB
  have LT := Lib.hid lt
  clear h hA TKC hB NB rq hr ER lt
  unfold fv at S0 KS
  unfold bx
  go_enter Tryz.func94, Tryz.ntmps94
  refine wp_region_held_drew (S := fun U => U.cell? ⟨n, 0, none⟩ = some (.func (.func 54) #[] #[]) ∧ U.cell? ⟨n + 2, 0, none⟩ = some (.func (.func 56) #[] #[])) (by kernel_rfl) (by rw [hV]; exact S0) (fun hH => ?_)
  refine wpAnyH_take (i := 0) (v := .func (.func 54) #[] #[]) rfl (by kernel_rfl) (by kernel_rfl) (by kernel_rfl) (fun _ _ _ h => h) (.inl ⟨by rfl, ?_⟩) (by assumption) ?_
  · intro W hW; have k0 := hW.1; go_simp
  try simp only [List.getElem_toArray, List.getElem_cons_zero, Act.put, List.setIfInBounds_toArray, List.set_cons_zero, List.set_cons_succ]
  refine wpAnyH_take (i := 1) (v := .pointer (some ⟨gc, 0, none⟩)) rfl (by kernel_rfl) (by kernel_rfl) (by kernel_rfl) (fun _ _ _ h => h) (.inl ⟨by rfl, ?_⟩) (by assumption) ?_
  · intro W hW; go_simp
  try simp only [List.getElem_toArray, List.getElem_cons_zero, List.getElem_cons_succ, Act.put, List.setIfInBounds_toArray, List.set_cons_zero, List.set_cons_succ]
  refine wpAnyH_take (i := 3) (v := .func (.func 56) #[] #[]) rfl (by kernel_rfl) (by kernel_rfl) (by kernel_rfl) (fun _ _ _ h => h) (.inl ⟨by rfl, ?_⟩) (by assumption) ?_
  · intro W hW; have k0 := hW.2; go_simp
  try simp only [List.getElem_toArray, List.getElem_cons_zero, List.getElem_cons_succ, Act.put, List.setIfInBounds_toArray, List.set_cons_zero, List.set_cons_succ]
  refine wpAnyH_take (i := 4) (v := .pointer (some ⟨g, 0, none⟩)) rfl (by kernel_rfl) (by kernel_rfl) (by kernel_rfl) (fun _ _ _ h => h) (.inl ⟨by rfl, ?_⟩) (by assumption) ?_
  · intro W hW; go_simp
  try simp only [List.getElem_toArray, List.getElem_cons_zero, List.getElem_cons_succ, Act.put, List.setIfInBounds_toArray, List.set_cons_zero, List.set_cons_succ]
  rw [hV]
  refine wpAnyH_ready (rs := [2]) (by decide +kernel) (by simp) (AllReadyH.cons rfl (fun KQ hK => ?_) AllReadyH.nil)
  go_simp
  refine (PL.out _).mono ?_; rintro e0 Wp ⟨rfl, rfl⟩
  refine hK.out _ _ S0 (fun _ => ?_)
  clear hK
  try simp only [List.setIfInBounds_toArray, List.set_cons_zero, List.set_cons_succ]
  refine wpAnyH_ready (rs := [5]) (by decide +kernel) (by simp) (AllReadyH.cons rfl (fun KQ hK => ?_) AllReadyH.nil)
  go_simp
  refine TK.out.mono ?_; rintro e0 Wa ⟨rfl, d⟩
  have SZ := Lib.hid d.2.size
  have KE : Hid (∀ j, gc < j → j < V.heap.size → Wa.heap[j]? = V.heap[j]?) := Lib.hid fun j hj hj2 => d.2.block j hj2 (by have := LT.out; simp; omega)
  have T1 := Lib.hid (HT.out.call HA.out d NBH.out.1 NBH.out.2)
  clear d TK
  refine hK.out _ _ (KS.out _ KE.out) (fun _ => ?_)
  clear hK
  try simp only [List.setIfInBounds_toArray, List.set_cons_zero, List.set_cons_succ]
  refine wpAnyH_take (i := 6) (v := .pointer (some ⟨gc, 5, none⟩)) rfl (by kernel_rfl) (by kernel_rfl) (by kernel_rfl) (fun _ _ _ h => h) (.inl ⟨by rfl, ?_⟩) (by assumption) ?_
  · intro W hW; go_simp
  try simp only [List.getElem_toArray, List.getElem_cons_zero, List.getElem_cons_succ, Act.put, List.setIfInBounds_toArray, List.set_cons_zero, List.set_cons_succ]
  refine wpAnyH_ready (rs := [7]) (by decide +kernel) (by simp) (AllReadyH.cons rfl (fun KQ hK => ?_) AllReadyH.nil)
  rw [if_pos (by rfl)]
  refine wp_store_mid 29 (.tmp 12) (.tmp 11) rfl gc 5 v.cells rfl rfl (by rw [Sp.size SL]; exact there15 T1.out.box) (by rw [info_sp, Sp.size SL]) v.one ?_
  refine hK.out _ _ (KS.out _ fun j hj hj2 => (setCells_other _ _ _ _ _ (by omega)).trans (KE.out j hj hj2)) (fun _ => ?_)
  clear hK
  try simp only [List.setIfInBounds_toArray, List.set_cons_zero, List.set_cons_succ]
  refine wpAnyH_done (by decide +kernel) ?_ _
  clear hH
  go_wp2_with fail
  go_end0
  rw [← eV]
  exact ⟨rfl, T1.out.putS SL, Nat.le_trans SZ.out (fr_cells (S := fun k => k = gc) (b := gc) rfl v.cellL 5 Wa).1.size, fun j hj hj2 => (setCells_other _ _ _ _ _ (by omega)).trans (KE.out j hj hj2)⟩
set_option maxRecDepth 100000 in
set_option maxHeartbeats 8000000 in
theorem ca4 {n gc : Nat} {W : World} (s c : Cm) (hx : ECm.Bx 32 W gc c) (hB : Bxs W n 54 55 56) (hn : gc < n) (hn2 : n + 2 < W.heap.size) :
    Calls Tryz.prog 95 #[.agg (ECm.cells s).toArray, bx gc, bx n] W fun E W' => E = .returned (.tuple #[]) ∧ ECm.Bx 32 W' gc (cpF s c 4) ∧ Below gc W W' ∧ ∀ j, gc < j → j < W.heap.size → W'.heap[j]? = W.heap[j]? := by
  obtain ⟨W1, hW1⟩ : ∃ U, W.alloc (.cells (ECm.cells s).toArray 32) = U := ⟨_, rfl⟩
  obtain ⟨g, hg⟩ : ∃ g, W.heap.size = g := ⟨_, rfl⟩
  have b1 : Below W.heap.size W W1 := by rw [← hW1]; exact below_new _ _
  have x1 : ECm.Bx 32 W1 g s := by rw [← hW1, ← hg]; exact gbx_new W _
  obtain ⟨V, hV⟩ : ∃ V, W1.drew = V := ⟨_, rfl⟩
  replace x1 : ECm.Bx 32 V g s := by rw [← hV]; exact gbx_below x1 (Below.refl _ _).drew
  replace b1 : Below W.heap.size W V := by rw [← hV]; exact b1.drew
  have HX := Lib.hid (gbx_below hx b1)
  have B1 := Lib.hid (b1.mono (show gc ≤ W.heap.size by omega))
  have K1 : Hid (∀ j, j < W.heap.size → V.heap[j]? = W.heap[j]?) := Lib.hid fun j hj => b1.block j hj
  have PL := Lib.hid fun p U => place4 p U
  have c0 : V.cell? ⟨n, 0, none⟩ = some (fv 54) ∧ V.rangeAt g 5 s.sp.cellL := ⟨(hB.below b1 hn2).p, sp_rng15 x1⟩
  have KS := Lib.hid fun (U : World) (f : ∀ j, j ≠ gc → U.heap[j]? = V.heap[j]?) => (show U.cell? ⟨n, 0, none⟩ = some (fv 54) ∧ U.rangeAt g 5 s.sp.cellL from
    ⟨by rw [← c0.1]; unfold World.cell?; rw [f n (by omega)], fun j u hj => by rw [← c0.2 j u hj]; unfold World.cell?; rw [f g (by omega)]⟩)
  have HW1 := Lib.hid hW1
  have HG := Lib.hid hg
  clear hB hx b1 x1 hW1
  unfold fv at c0 KS
  unfold bx
  go_enter Tryz.func95, Tryz.ntmps95
  go_wp2_with fail
  rw [HW1.out]
  try rw [HG.out]
  refine wp_region_held_drew (S := fun U => U.cell? ⟨n, 0, none⟩ = some (.func (.func 54) #[] #[]) ∧ U.rangeAt g 5 s.sp.cellL) (by kernel_rfl) (by rw [hV]; exact c0) (fun hH => ?_)
  refine wpAnyH_take (i := 0) (v := .func (.func 54) #[] #[]) rfl (by kernel_rfl) (by kernel_rfl) (by kernel_rfl) (fun _ _ _ h => h) (.inl ⟨by rfl, ?_⟩) (by assumption) ?_
  · intro W hW; have k0 := hW.1; go_simp
  try simp only [List.getElem_toArray, List.getElem_cons_zero, Act.put, List.setIfInBounds_toArray, List.set_cons_zero, List.set_cons_succ]
  refine wpAnyH_take (i := 1) (v := .pointer (some ⟨gc, 0, none⟩)) rfl (by kernel_rfl) (by kernel_rfl) (by kernel_rfl) (fun _ _ _ h => h) (.inl ⟨by rfl, ?_⟩) (by assumption) ?_
  · intro W hW; go_simp
  try simp only [List.getElem_toArray, List.getElem_cons_zero, List.getElem_cons_succ, Act.put, List.setIfInBounds_toArray, List.set_cons_zero, List.set_cons_succ]
  refine wpAnyH_take (i := 3) (v := .func (.func 54) #[] #[]) rfl (by kernel_rfl) (by kernel_rfl) (by kernel_rfl) (fun _ _ _ h => h) (.inl ⟨by rfl, ?_⟩) (by assumption) ?_
  · intro W hW; have k0 := hW.1; go_simp
  try simp only [List.getElem_toArray, List.getElem_cons_zero, List.getElem_cons_succ, Act.put, List.setIfInBounds_toArray, List.set_cons_zero, List.set_cons_succ]
  rw [hV]
  refine wpAnyH_ready (rs := [2]) (by decide +kernel) (by simp) (AllReadyH.cons rfl (fun KQ hK => ?_) AllReadyH.nil)
  go_simp
  refine (PL.out _ _).mono ?_; rintro e0 Wp ⟨rfl, rfl⟩
  refine hK.out _ _ c0 (fun _ => ?_)
  clear hK
  try simp only [List.setIfInBounds_toArray, List.set_cons_zero, List.set_cons_succ]
  refine wpAnyH_ready (rs := [4]) (by decide +kernel) (by simp) (AllReadyH.cons rfl (fun KQ hK => ?_) AllReadyH.nil)
  go_simp
  refine (PL.out _ _).mono ?_; rintro e0 Wp ⟨rfl, rfl⟩
  refine hK.out _ _ c0 (fun _ => ?_)
  clear hK
  try simp only [List.setIfInBounds_toArray, List.set_cons_zero, List.set_cons_succ]
  refine wpAnyH_take (i := 5) (v := .pointer (some ⟨g, 5, none⟩)) rfl (by kernel_rfl) (by kernel_rfl) (by kernel_rfl) (fun _ _ _ h => h) (.inl ⟨by rfl, ?_⟩) (by assumption) ?_
  · intro W hW; go_simp
  try simp only [List.getElem_toArray, List.getElem_cons_zero, List.getElem_cons_succ, Act.put, List.setIfInBounds_toArray, List.set_cons_zero, List.set_cons_succ]
  refine wpAnyH_take (i := 6) (v := .agg s.sp.cells) rfl (by kernel_rfl) (by kernel_rfl) (by kernel_rfl) (fun _ _ _ h => h) (yieldsIf_load_mid (by rfl) 29 (.tmp 10) rfl g 5 rfl s.sp.cellL _ (fun U hU => hU.2) Tryz.underlying29 rfl (by rw [info_sp, sp_len15 s.len])) (by assumption) ?_
  try simp only [List.getElem_toArray, List.getElem_cons_zero, List.getElem_cons_succ, Act.put, List.setIfInBounds_toArray, List.set_cons_zero, List.set_cons_succ]
  refine wpAnyH_take (i := 7) (v := .pointer (some ⟨gc, 5, none⟩)) rfl (by kernel_rfl) (by kernel_rfl) (by kernel_rfl) (fun _ _ _ h => h) (.inl ⟨by rfl, ?_⟩) (by assumption) ?_
  · intro W hW; go_simp
  try simp only [List.getElem_toArray, List.getElem_cons_zero, List.getElem_cons_succ, Act.put, List.setIfInBounds_toArray, List.set_cons_zero, List.set_cons_succ]
  refine wpAnyH_ready (rs := [8]) (by decide +kernel) (by simp) (AllReadyH.cons rfl (fun KQ hK => ?_) AllReadyH.nil)
  rw [if_pos (by rfl)]
  refine wp_store_mid 29 (.tmp 12) (.tmp 11) rfl gc 5 s.sp.cells rfl rfl (by rw [Sp.size s.len]; exact there15 HX.out) (by rw [info_sp, Sp.size s.len]) s.sp.one ?_
  refine hK.out _ _ (KS.out _ (carry_setS HX.out s.len).2.2) (fun _ => ?_)
  clear hK
  try simp only [List.setIfInBounds_toArray, List.set_cons_zero, List.set_cons_succ]
  refine wpAnyH_done (by decide +kernel) ?_ _
  clear hH
  go_wp2_with fail
  go_end0
  exact ⟨rfl, (carry_setS HX.out s.len).1, B1.out.trans ((carry_setS HX.out s.len).2.1), fun j hj hj2 => ((carry_setS HX.out s.len).2.2 j (by omega)).trans (K1.out j hj2)⟩
end Go.Proofs.YtbmlpokkojhhjaaGreat.Wz
