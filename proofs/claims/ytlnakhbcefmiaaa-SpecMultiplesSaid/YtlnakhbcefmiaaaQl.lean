/- The statements' own check on a small contract, given the program's own calls. -/
import Derived.Test.YtlnakhbcefmiaaaQk
namespace Go.Proofs.Ytlnakhbcefmiaaa
open Go.RowKit

set_option maxRecDepth 100000 in
set_option maxHeartbeats 4000000 in
theorem known_spec (K : SpecK) (w : World) : Calls Try.prog 16 #[] w fun e w' => e = .returned (.bool true) ∧ Below w.heap.size w w' := by
  have SM := Lib.hid tiny_any
  have MY := Lib.hid (fun W => K.may smallSp W small_ok)
  have PR := Lib.hid (fun W => K.price smallSp 1001 W small_ok (by unfold I64; omega))
  have BY := Lib.hid (fun W => K.bytesT smallSp W small_ok small_may)
  have RD := Lib.hid (fun (A : Option Addr) (n c : Nat) (bs : List Int) (W : World) h1 h2 h3 h4 h5 => K.readT A n c bs smallSp W h1 h2 h3 h4 small_ok small_may h5)
  have hlen := form_len small_ok
  have hby := form_by smallSp
  rw [small_may] at MY
  rw [small_price] at PR
  have Z := zero_sp
  go_enter Try.func16, Try.ntmps16
  go_wp2_with fail
  refine (SM.out _).mono ?_; rintro e w1 ⟨rfl, q1⟩
  go_wp2_with fail
  refine (BY.out _).mono ?_; rintro e w2 ⟨v, rfl, hN⟩
  obtain ⟨A, c, rfl, r2, n2⟩ := owns_pt hN.o
  have R2 := Lib.hid r2
  have N2 := Lib.hid n2
  have B2 := Lib.hid (q1.trans (hN.q.mono q1.size))
  obtain ⟨FS, hFS⟩ : ∃ FS, form smallSp = FS := ⟨_, rfl⟩
  have RD2 := Lib.hid (fun W h1 => RD.out A FS.length c FS W h1 (by rw [← hFS]; exact hby) (by rw [← hFS]; exact N2.out) (by rw [← hFS]; omega) hFS.symm)
  rw [hFS] at R2 ⊢
  obtain ⟨fl, hfl⟩ : ∃ fl, FS.length = fl := ⟨_, rfl⟩
  rw [hfl] at R2 RD2 ⊢
  clear hN r2 n2 q1 hby hlen hFS hfl RD N2
  go_wp2_with fail
  refine (RD2.out _ R2.out).mono ?_; rintro e w3 ⟨rfl, q3⟩
  have B3 := Lib.hid (B2.out.trans (q3.mono B2.out.size))
  have HB3 := Lib.hid (box_new w3 (s := zeroSp) rfl)
  have HB4 := Lib.hid (box_set HB3.out (s := smallSp) rfl)
  have B4 := Lib.hid (below_row' (g := w3.heap.size) (cs := smallSp.cells) (B3.out.alloc B3.out.size (.cells zeroSp.cells 25)) B3.out.size)
  obtain ⟨W4, hW4⟩ : ∃ W, ((w3.alloc (.cells zeroSp.cells 25)).setRow w3.heap.size smallSp.cells) = W := ⟨_, rfl⟩
  obtain ⟨G3, hG3⟩ : ∃ g, w3.heap.size = g := ⟨_, rfl⟩
  have HW4 := Lib.hid hW4
  have HG3 := Lib.hid hG3
  rw [hW4] at HB4 B4
  rw [hG3] at HB4
  clear q3 RD2 R2 B2 hW4 hG3
  go_wp2_with ((with_reducible refine wl_store_sp smallSp w3.heap.size HB3.out rfl ?_ ?_ ?_); rfl; rfl; rw [HW4.out])
  rw [HG3.out]
  clear HB3 HW4 HG3 B3
  refine wp_region_held_drew (S := fun U => Below W4.heap.size W4 U) (by kernel_rfl) (Below.refl _ _).drew (fun hH => ?_)
  refine wpAnyH_ready (rs := [0]) (by decide +kernel) (by simp) (AllReadyH.cons rfl (fun KQ hK => ?_) AllReadyH.nil)
  go_simp
  refine (SM.out _).mono ?_; rintro e0 W1 ⟨rfl, q1⟩
  have hH := hH.trans (q1.mono hH.size)
  refine hK.out _ _ hH (fun _ => ?_)
  clear hK q1
  try simp only [List.setIfInBounds_toArray, List.set_cons_zero, List.set_cons_succ]
  refine wpAnyH_ready (rs := [1]) (by decide +kernel) (by simp) (AllReadyH.cons rfl (fun KQ hK => ?_) AllReadyH.nil)
  go_simp
  refine (MY.out _).mono ?_; rintro e0 W1 ⟨rfl, q1⟩
  have hH := hH.trans (q1.mono hH.size)
  refine hK.out _ _ hH (fun _ => ?_)
  clear hK q1
  try simp only [List.setIfInBounds_toArray, List.set_cons_zero, List.set_cons_succ]
  refine wpAnyH_take (i := 2) (v := .bool true) rfl (by kernel_rfl) (by kernel_rfl) (by kernel_rfl) (fun _ _ _ h => h) (.inl ⟨by rfl, ?_⟩) (by assumption) ?_
  · intro W hW; go_simp
  try simp only [List.getElem_toArray, List.getElem_cons_zero, List.getElem_cons_succ, Act.put, List.setIfInBounds_toArray, List.set_cons_zero, List.set_cons_succ]
  refine wpAnyH_take (i := 3) (v := .int .i64 0) rfl (by kernel_rfl) (by kernel_rfl) (by kernel_rfl) (fun _ _ _ h => h) (.inl ⟨by rfl, ?_⟩) (by assumption) ?_
  · intro W hW; go_simp
  try simp only [List.getElem_toArray, List.getElem_cons_zero, List.getElem_cons_succ, Act.put, List.setIfInBounds_toArray, List.set_cons_zero, List.set_cons_succ]
  refine wpAnyH_take (i := 4) (v := .bool true) rfl (by kernel_rfl) (by kernel_rfl) (by kernel_rfl) (fun _ _ _ h => h) (.inl ⟨by rfl, ?_⟩) (by assumption) ?_
  · intro W hW; go_simp
  try simp only [List.getElem_toArray, List.getElem_cons_zero, List.getElem_cons_succ, Act.put, List.setIfInBounds_toArray, List.set_cons_zero, List.set_cons_succ]
  refine wpAnyH_take (i := 5) (v := .bool true) rfl (by kernel_rfl) (by kernel_rfl) (by kernel_rfl) (fun _ _ _ h => h) (.inl ⟨by rfl, ?_⟩) (by assumption) ?_
  · intro W hW; go_simp
  try simp only [List.getElem_toArray, List.getElem_cons_zero, List.getElem_cons_succ, Act.put, List.setIfInBounds_toArray, List.set_cons_zero, List.set_cons_succ]
  refine wpAnyH_take (i := 6) (v := .bool true) rfl (by kernel_rfl) (by kernel_rfl) (by kernel_rfl) (fun _ _ _ h => h) (.inl ⟨by rfl, ?_⟩) (by assumption) ?_
  · intro W hW; go_simp
  try simp only [List.getElem_toArray, List.getElem_cons_zero, List.getElem_cons_succ, Act.put, List.setIfInBounds_toArray, List.set_cons_zero, List.set_cons_succ]
  refine wpAnyH_take (i := 7) (v := .int .i64 0) rfl (by kernel_rfl) (by kernel_rfl) (by kernel_rfl) (fun _ _ _ h => h) (.inl ⟨by rfl, ?_⟩) (by assumption) ?_
  · intro W hW; go_simp
  try simp only [List.getElem_toArray, List.getElem_cons_zero, List.getElem_cons_succ, Act.put, List.setIfInBounds_toArray, List.set_cons_zero, List.set_cons_succ]
  refine wpAnyH_take (i := 8) (v := .bool true) rfl (by kernel_rfl) (by kernel_rfl) (by kernel_rfl) (fun _ _ _ h => h) (.inl ⟨by rfl, ?_⟩) (by assumption) ?_
  · intro W hW; go_simp
  try simp only [List.getElem_toArray, List.getElem_cons_zero, List.getElem_cons_succ, Act.put, List.setIfInBounds_toArray, List.set_cons_zero, List.set_cons_succ]
  refine wpAnyH_take (i := 9) (v := .bool true) rfl (by kernel_rfl) (by kernel_rfl) (by kernel_rfl) (fun _ _ _ h => h) (.inl ⟨by rfl, ?_⟩) (by assumption) ?_
  · intro W hW; go_simp
  try simp only [List.getElem_toArray, List.getElem_cons_zero, List.getElem_cons_succ, Act.put, List.setIfInBounds_toArray, List.set_cons_zero, List.set_cons_succ]
  refine wpAnyH_take (i := 10) (v := .bool true) rfl (by kernel_rfl) (by kernel_rfl) (by kernel_rfl) (fun _ _ _ h => h) (.inl ⟨by rfl, ?_⟩) (by assumption) ?_
  · intro W hW; go_simp
  try simp only [List.getElem_toArray, List.getElem_cons_zero, List.getElem_cons_succ, Act.put, List.setIfInBounds_toArray, List.set_cons_zero, List.set_cons_succ]
  refine wpAnyH_take (i := 11) (v := .agg smallSp.cells) rfl (by kernel_rfl) (by kernel_rfl) (by kernel_rfl) (fun _ _ _ h => h) (yields_load_sp (by rfl) (.tmp 3) rfl G3 rfl (fun W hW => HB4.out.below hW)) (by assumption) ?_
  try simp only [List.getElem_toArray, List.getElem_cons_zero, List.getElem_cons_succ, Act.put, List.setIfInBounds_toArray, List.set_cons_zero, List.set_cons_succ]
  refine wpAnyH_ready (rs := [12]) (by decide +kernel) (by simp) (AllReadyH.cons rfl (fun KQ hK => ?_) AllReadyH.nil)
  go_simp
  refine (SM.out _).mono ?_; rintro e0 W1 ⟨rfl, q1⟩
  have hH := hH.trans (q1.mono hH.size)
  refine hK.out _ _ hH (fun _ => ?_)
  clear hK q1
  try simp only [List.setIfInBounds_toArray, List.set_cons_zero, List.set_cons_succ]
  refine wpAnyH_take (i := 13) (v := .bool true) rfl (by kernel_rfl) (by kernel_rfl) (by kernel_rfl) (fun _ _ _ h => h) (yields_same (by rfl) (.tmp 26) (.tmp 27) rfl small_ok rfl rfl) (by assumption) ?_
  try simp only [List.getElem_toArray, List.getElem_cons_zero, List.getElem_cons_succ, Act.put, List.setIfInBounds_toArray, List.set_cons_zero, List.set_cons_succ]
  refine wpAnyH_take (i := 14) (v := .bool true) rfl (by kernel_rfl) (by kernel_rfl) (by kernel_rfl) (fun _ _ _ h => h) (.inl ⟨by rfl, ?_⟩) (by assumption) ?_
  · intro W hW; go_simp
  try simp only [List.getElem_toArray, List.getElem_cons_zero, List.getElem_cons_succ, Act.put, List.setIfInBounds_toArray, List.set_cons_zero, List.set_cons_succ]
  refine wpAnyH_take (i := 15) (v := .bool true) rfl (by kernel_rfl) (by kernel_rfl) (by kernel_rfl) (fun _ _ _ h => h) (.inl ⟨by rfl, ?_⟩) (by assumption) ?_
  · intro W hW; go_simp
  try simp only [List.getElem_toArray, List.getElem_cons_zero, List.getElem_cons_succ, Act.put, List.setIfInBounds_toArray, List.set_cons_zero, List.set_cons_succ]
  refine wpAnyH_take (i := 16) (v := .agg smallSp.cells) rfl (by kernel_rfl) (by kernel_rfl) (by kernel_rfl) (fun _ _ _ h => h) (yields_load_sp (by rfl) (.tmp 3) rfl G3 rfl (fun W hW => HB4.out.below hW)) (by assumption) ?_
  try simp only [List.getElem_toArray, List.getElem_cons_zero, List.getElem_cons_succ, Act.put, List.setIfInBounds_toArray, List.set_cons_zero, List.set_cons_succ]
  refine wpAnyH_ready (rs := [17]) (by decide +kernel) (by simp) (AllReadyH.cons rfl (fun KQ hK => ?_) AllReadyH.nil)
  go_simp
  refine (PR.out _).mono ?_; rintro e0 W1 ⟨rfl, q1⟩
  have hH := hH.trans (q1.mono hH.size)
  refine hK.out _ _ hH (fun _ => ?_)
  clear hK q1
  try simp only [List.setIfInBounds_toArray, List.set_cons_zero, List.set_cons_succ]
  refine wpAnyH_take (i := 18) (v := .bool true) rfl (by kernel_rfl) (by kernel_rfl) (by kernel_rfl) (fun _ _ _ h => h) (.inl ⟨by rfl, ?_⟩) (by assumption) ?_
  · intro W hW; go_simp
  try simp only [List.getElem_toArray, List.getElem_cons_zero, List.getElem_cons_succ, Act.put, List.setIfInBounds_toArray, List.set_cons_zero, List.set_cons_succ]
  refine wpAnyH_take (i := 19) (v := .bool true) rfl (by kernel_rfl) (by kernel_rfl) (by kernel_rfl) (fun _ _ _ h => h) (.inl ⟨by rfl, ?_⟩) (by assumption) ?_
  · intro W hW; go_simp
  try simp only [List.getElem_toArray, List.getElem_cons_zero, List.getElem_cons_succ, Act.put, List.setIfInBounds_toArray, List.set_cons_zero, List.set_cons_succ]
  refine wpAnyH_take (i := 20) (v := .bool true) rfl (by kernel_rfl) (by kernel_rfl) (by kernel_rfl) (fun _ _ _ h => h) (.inl ⟨by rfl, ?_⟩) (by assumption) ?_
  · intro W hW; go_simp
  try simp only [List.getElem_toArray, List.getElem_cons_zero, List.getElem_cons_succ, Act.put, List.setIfInBounds_toArray, List.set_cons_zero]
  refine wpAnyH_done (by decide +kernel) ?_ _
  have B5 := Lib.hid (B4.out.trans (hH.mono B4.out.size))
  clear hH
  go_wp2_with fail
  go_ret
  exact ⟨rfl, B5.out⟩
end Go.Proofs.Ytlnakhbcefmiaaa
