/- ExposeTotals, walked (by genExu.py). -/
import Derived.Test.YtcpcnjiphiokjaaExk
namespace Go.Proofs.Ytcpcnjiphiokjaa
open Go.RowKit Go.Shelf
set_option linter.unusedVariables false
set_option linter.unusedSimpArgs false

set_option maxRecDepth 100000 in
set_option maxHeartbeats 2000000 in
theorem totals11_all (x : Nd) (w : World) (ok : x.ok) : Calls Try.prog 4 #[.agg (EN.cells x).toArray] w fun e w' => e = .returned (.bool true) ∧ Below w.heap.size w w' := by
  obtain ⟨W1, hW1⟩ : ∃ W1, w.alloc (.cells (EN.cells x).toArray 35) = W1 := ⟨_, rfl⟩
  have x1 : EN.Bx 35 W1 w.heap.size x := by rw [← hW1]; exact gbx_new w _
  have b1 : Below w.heap.size w W1 := by rw [← hW1]; exact below_new w _
  have KX := Lib.hid fun (W : World) (q : Below W1.heap.size W1 W) => (show W.rangeAt w.heap.size 0 (EN.cells x) from gbx_rng (gbx_below x1 q))
  have HW1 := Lib.hid hW1
  have B1 := Lib.hid b1
  have T1 := Lib.hid fun W => total11 x W ok
  have T2 := Lib.hid fun W => rtotal11 x W ok
  have KN := Lib.hid fun W => known11 W
  generalize toN x = t at *
  clear x1 b1 hW1
  go_enter Try.func4, Try.ntmps4
  go_wp2_with (rw [HW1.out])
  refine wp_region_held_drew (S := fun U => Below W1.heap.size W1 U) (by kernel_rfl) (Below.refl _ _).drew (fun hH => ?_)
  have HB0 := Lib.hid hH
  refine wpAnyH_take (i := 0) (v := .agg (EN.cells x).toArray) rfl (by kernel_rfl) (by kernel_rfl) (by kernel_rfl) (fun _ _ _ h => h) (ryields_load TN (by rfl) (.tmp 1) rfl w.heap.size 0 rfl (fun U hU => KX.out U hU)) (by assumption) ?_
  try simp only [List.getElem_toArray, List.getElem_cons_zero, List.getElem_cons_succ, Act.put, List.setIfInBounds_toArray, List.set_cons_zero, List.set_cons_succ]
  refine wpAnyH_take (i := 2) (v := .agg (EN.cells x).toArray) rfl (by kernel_rfl) (by kernel_rfl) (by kernel_rfl) (fun _ _ _ h => h) (ryields_load TN (by rfl) (.tmp 1) rfl w.heap.size 0 rfl (fun U hU => KX.out U hU)) (by assumption) ?_
  try simp only [List.getElem_toArray, List.getElem_cons_zero, List.getElem_cons_succ, Act.put, List.setIfInBounds_toArray, List.set_cons_zero, List.set_cons_succ]
  refine wpAnyH_ready (rs := [1]) (by decide +kernel) (by simp) (AllReadyH.cons rfl (fun KQ hK => ?_) AllReadyH.nil)
  go_simp
  refine (T1.out _).mono ?_; rintro e0 V1 ⟨rfl, q1⟩
  have HB1 := Lib.hid (HB0.out.trans (q1.mono HB0.out.size))
  refine hK.out _ _ HB1.out (fun _ => ?_)
  clear hK q1
  try simp only [List.getElem_toArray, List.getElem_cons_zero, List.getElem_cons_succ, Act.put, List.setIfInBounds_toArray, List.set_cons_zero, List.set_cons_succ]
  refine wpAnyH_ready (rs := [3]) (by decide +kernel) (by simp) (AllReadyH.cons rfl (fun KQ hK => ?_) AllReadyH.nil)
  go_simp
  refine (T2.out _).mono ?_; rintro e0 V2 ⟨rfl, q1⟩
  have HB2 := Lib.hid (HB1.out.trans (q1.mono HB1.out.size))
  refine hK.out _ _ HB2.out (fun _ => ?_)
  clear hK q1
  try simp only [List.getElem_toArray, List.getElem_cons_zero, List.getElem_cons_succ, Act.put, List.setIfInBounds_toArray, List.set_cons_zero, List.set_cons_succ]
  refine wpAnyH_take (i := 4) (v := .bool true) rfl (by kernel_rfl) (by kernel_rfl) (by kernel_rfl) (fun _ _ _ h => h) (.inl ⟨by rfl, ?_⟩) (by assumption) ?_
  · intro W hW; go_simp
  try simp only [List.getElem_toArray, List.getElem_cons_zero, List.getElem_cons_succ, Act.put, List.setIfInBounds_toArray, List.set_cons_zero, List.set_cons_succ]
  refine wpAnyH_take (i := 5) (v := .bool true) rfl (by kernel_rfl) (by kernel_rfl) (by kernel_rfl) (fun _ _ _ h => h) (.inl ⟨by rfl, ?_⟩) (by assumption) ?_
  · intro W hW; go_simp
  try simp only [List.getElem_toArray, List.getElem_cons_zero, List.getElem_cons_succ, Act.put, List.setIfInBounds_toArray, List.set_cons_zero, List.set_cons_succ]
  refine wpAnyH_ready (rs := [6]) (by decide +kernel) (by simp) (AllReadyH.cons rfl (fun KQ hK => ?_) AllReadyH.nil)
  go_simp
  refine (KN.out _).mono ?_; rintro e0 V3 ⟨rfl, q1⟩
  have HB3 := Lib.hid (HB2.out.trans (q1.mono HB2.out.size))
  refine hK.out _ _ HB3.out (fun _ => ?_)
  clear hK q1
  try simp only [List.getElem_toArray, List.getElem_cons_zero, List.getElem_cons_succ, Act.put, List.setIfInBounds_toArray, List.set_cons_zero, List.set_cons_succ]
  refine wpAnyH_take (i := 7) (v := .bool true) rfl (by kernel_rfl) (by kernel_rfl) (by kernel_rfl) (fun _ _ _ h => h) (.inl ⟨by rfl, ?_⟩) (by assumption) ?_
  · intro W hW; go_simp
  try simp only [List.getElem_toArray, List.getElem_cons_zero, List.getElem_cons_succ, Act.put, List.setIfInBounds_toArray, List.set_cons_zero, List.set_cons_succ]
  refine wpAnyH_take (i := 8) (v := .bool true) rfl (by kernel_rfl) (by kernel_rfl) (by kernel_rfl) (fun _ _ _ h => h) (.inl ⟨by rfl, ?_⟩) (by assumption) ?_
  · intro W hW; go_simp
  try simp only [List.getElem_toArray, List.getElem_cons_zero, List.getElem_cons_succ, Act.put, List.setIfInBounds_toArray, List.set_cons_zero, List.set_cons_succ]
  refine wpAnyH_done (by decide +kernel) ?_ _
  go_wp2_with fail
  go_ret
  exact ⟨rfl, B1.out.trans (HB3.out.mono B1.out.size)⟩
end Go.Proofs.Ytcpcnjiphiokjaa
