/- Contracts of the document's plain side: Best, Fill. -/
import Derived.Test.YtpnccbcaoifdiaaSh
namespace Go.Proofs.Ytpnccbcaoifdiaa
open Go.RowKit
set_option linter.unusedVariables false

theorem fst_empty (buy : Bool) : fstO buy [] ([] : List Or).length = -1 := rfl
set_option maxRecDepth 100000 in
set_option maxHeartbeats 1000000 in
theorem rbest_none (B g : Nat) (v : Value) (buy : Bool) (l : List Or) (w : World) (h : Rs w B g v buy l) (hp : l = []) :
    Calls Try.prog 26 #[.pointer (some ⟨g, 0, none⟩)] w fun e w' => e = .returned (.tuple #[.agg (EO.cells zeroOr).toArray, .bool false]) ∧ Below w.heap.size w w' := by
  have hz := zero_or
  obtain ⟨W1, hW1, b1, x1, s1⟩ := res_new w
  have h1 := h.below b1
  obtain ⟨A, c, rfl, _⟩ := gown_form h.own
  have C0 := Lib.hid fun (W : World) (q : Below W1.heap.size W1 W) => (h1.below q).c0
  have C1 := Lib.hid fun (W : World) (q : Below W1.heap.size W1 W) => (h1.below q).c1
  have FS := Lib.hid fun (W : World) (q : Below W1.heap.size W1 W) => rfst_any buy A l.length c l W (gown_rd (h1.below q).own) h.ok (by have := h.le; omega)
  have HW := Lib.hid hW1
  have X1 := Lib.hid fun (W : World) (q : Below W1.heap.size W1 W) => (show EO.Bx 33 W w.heap.size zeroOr from gbx_below x1 q)
  have B1 := Lib.hid b1
  have H1 := Lib.hid h1
  have hle := h.le
  have hf : fstO buy l l.length = -1 := by rw [hp]; rfl
  rw [hf] at FS
  clear h h1 hp hf x1 b1 hW1 s1
  generalize l.length = m at *
  go_enter Try.func26, Try.ntmps26
  go_wp2_with fail
  rw [HW.out]
  refine wp_region_held_drew (S := fun U => Below W1.heap.size W1 U) (by kernel_rfl) (Below.refl _ _).drew (fun hH => ?_)
  refine wpAnyH_take (i := 0) (v := .pointer (some ⟨g, 0, none⟩)) rfl (by kernel_rfl) (by kernel_rfl) (by kernel_rfl) (fun _ _ _ h => h) (.inl ⟨by rfl, ?_⟩) (by assumption) ?_
  · intro W hW; go_simp
  try simp only [List.getElem_toArray, List.getElem_cons_zero, Act.put, List.setIfInBounds_toArray, List.set_cons_zero, List.set_cons_succ]
  refine wpAnyH_take (i := 1) (v := .pointer (some ⟨g, 0, none⟩)) rfl (by kernel_rfl) (by kernel_rfl) (by kernel_rfl) (fun _ _ _ h => h) (.inl ⟨by rfl, ?_⟩) (by assumption) ?_
  · intro W hW; go_simp
  try simp only [List.getElem_toArray, List.getElem_cons_zero, List.getElem_cons_succ, Act.put, List.setIfInBounds_toArray, List.set_cons_zero, List.set_cons_succ]
  refine wpAnyH_take (i := 2) (v := .pointer (some ⟨g, 0, none⟩)) rfl (by kernel_rfl) (by kernel_rfl) (by kernel_rfl) (fun _ _ _ h => h) (.inl ⟨by rfl, ?_⟩) (by assumption) ?_
  · intro W hW; go_simp
  try simp only [List.getElem_toArray, List.getElem_cons_zero, List.getElem_cons_succ, Act.put, List.setIfInBounds_toArray, List.set_cons_zero, List.set_cons_succ]
  refine wpAnyH_take (i := 3) (v := .bool buy) rfl (by kernel_rfl) (by kernel_rfl) (by kernel_rfl) (fun _ _ _ h => h) (.inl ⟨by rfl, ?_⟩) (by assumption) ?_
  · intro W hW; have h1 := C0.out W hW; go_simp
  try simp only [List.getElem_toArray, List.getElem_cons_zero, List.getElem_cons_succ, Act.put, List.setIfInBounds_toArray, List.set_cons_zero, List.set_cons_succ]
  refine wpAnyH_take (i := 4) (v := .pointer (some ⟨g, 0, none⟩)) rfl (by kernel_rfl) (by kernel_rfl) (by kernel_rfl) (fun _ _ _ h => h) (.inl ⟨by rfl, ?_⟩) (by assumption) ?_
  · intro W hW; go_simp
  try simp only [List.getElem_toArray, List.getElem_cons_zero, List.getElem_cons_succ, Act.put, List.setIfInBounds_toArray, List.set_cons_zero, List.set_cons_succ]
  refine wpAnyH_take (i := 5) (v := .pointer (some ⟨g, 0, none⟩)) rfl (by kernel_rfl) (by kernel_rfl) (by kernel_rfl) (fun _ _ _ h => h) (.inl ⟨by rfl, ?_⟩) (by assumption) ?_
  · intro W hW; go_simp
  try simp only [List.getElem_toArray, List.getElem_cons_zero, List.getElem_cons_succ, Act.put, List.setIfInBounds_toArray, List.set_cons_zero, List.set_cons_succ]
  refine wpAnyH_take (i := 6) (v := .pointer (some ⟨g, 1, none⟩)) rfl (by kernel_rfl) (by kernel_rfl) (by kernel_rfl) (fun _ _ _ h => h) (.inl ⟨by rfl, ?_⟩) (by assumption) ?_
  · intro W hW; go_simp
  try simp only [List.getElem_toArray, List.getElem_cons_zero, List.getElem_cons_succ, Act.put, List.setIfInBounds_toArray, List.set_cons_zero, List.set_cons_succ]
  refine wpAnyH_take (i := 7) (v := .slice A m c) rfl (by kernel_rfl) (by kernel_rfl) (by kernel_rfl) (fun _ _ _ h => h) (.inl ⟨by rfl, ?_⟩) (by assumption) ?_
  · intro W hW; have h1 := C1.out W hW; go_simp
  try simp only [List.getElem_toArray, List.getElem_cons_zero, List.getElem_cons_succ, Act.put, List.setIfInBounds_toArray, List.set_cons_zero, List.set_cons_succ]
  refine wpAnyH_ready (rs := [8]) (by decide +kernel) (by simp) (AllReadyH.cons rfl (fun KQ hK => ?_) AllReadyH.nil)
  go_simp
  refine (FS.out _ hH).mono ?_; rintro e0 W2 ⟨rfl, q1⟩
  have hH2 := hH.trans (q1.mono hH.size)
  refine hK.out _ _ hH2 (fun _ => ?_)
  clear hK q1 hH
  try simp only [List.setIfInBounds_toArray, List.set_cons_zero, List.set_cons_succ]
  refine wpAnyH_take (i := 9) (v := .int .i64 (-1)) rfl (by kernel_rfl) (by kernel_rfl) (by kernel_rfl) (fun _ _ _ h => h) (.inl ⟨by rfl, ?_⟩) (by assumption) ?_
  · intro W hW; go_simp
  try simp only [List.getElem_toArray, List.getElem_cons_zero, List.getElem_cons_succ, Act.put, List.setIfInBounds_toArray, List.set_cons_zero, List.set_cons_succ]
  refine wpAnyH_done (by decide +kernel) ?_ _
  have Q2 := Lib.hid hH2
  clear hH2
  go_wp2_with (first | (refine gwl_build0 built_or ?_) | (refine gwl_store TO zeroOr w.heap.size (X1.out _ Q2.out) rfl rfl ?_))
  exact bodyPost_ret (gret TO rfl _ _ w.heap.size rfl rfl (gbx_set (X1.out _ Q2.out))) rfl ⟨rfl, row_inO (Nat.le_refl _) (B1.out.trans (Q2.out.mono B1.out.size))⟩
set_option maxRecDepth 100000 in
set_option maxHeartbeats 1000000 in
theorem rbest_some (B g : Nat) (v : Value) (buy : Bool) (l : List Or) (k : Nat) (x : Or) (w : World) (h : Rs w B g v buy l) (hp : fstO buy l l.length = k) (hx : l[k]? = some x) :
    Calls Try.prog 26 #[.pointer (some ⟨g, 0, none⟩)] w fun e w' => e = .returned (.tuple #[.agg (EO.cells x).toArray, .bool true]) ∧ Below w.heap.size w w' := by
  have hz := zero_or
  obtain ⟨W1, hW1, b1, x1, s1⟩ := res_new w
  have h1 := h.below b1
  obtain ⟨A, c, rfl, _⟩ := gown_form h.own
  have C0 := Lib.hid fun (W : World) (q : Below W1.heap.size W1 W) => (h1.below q).c0
  have C1 := Lib.hid fun (W : World) (q : Below W1.heap.size W1 W) => (h1.below q).c1
  have FS := Lib.hid fun (W : World) (q : Below W1.heap.size W1 W) => rfst_any buy A l.length c l W (gown_rd (h1.below q).own) h.ok (by have := h.le; omega)
  have HW := Lib.hid hW1
  have X1 := Lib.hid fun (W : World) (q : Below W1.heap.size W1 W) => (show EO.Bx 33 W w.heap.size zeroOr from gbx_below x1 q)
  have B1 := Lib.hid b1
  have H1 := Lib.hid h1
  have hle := h.le
  rw [hp] at FS
  have hk := (List.getElem?_eq_some_iff.1 hx).1
  obtain ⟨b, c', eb⟩ := gown_slot h.own (by omega)
  injection eb with e1 _ e2
  subst e1 e2
  have RG : Hid (∀ W, Below W1.heap.size W1 W → W.rangeAt b (k * 5) (EO.cells x)) := Lib.hid fun W q => gown_rng (h1.below q).own hx
  have hki : (k : Int) < (l.length : Int) := by omega
  have hd : decide ((k : Int) < 0) = false := decide_eq_false (by omega)
  clear h h1 hp hx x1 b1 hW1 s1
  generalize l.length = m at *
  generalize hA : (some ⟨b, 0, none⟩ : Option Addr) = A at *
  go_enter Try.func26, Try.ntmps26
  go_wp2_with fail
  rw [HW.out]
  refine wp_region_held_drew (S := fun U => Below W1.heap.size W1 U) (by kernel_rfl) (Below.refl _ _).drew (fun hH => ?_)
  refine wpAnyH_take (i := 0) (v := .pointer (some ⟨g, 0, none⟩)) rfl (by kernel_rfl) (by kernel_rfl) (by kernel_rfl) (fun _ _ _ h => h) (.inl ⟨by rfl, ?_⟩) (by assumption) ?_
  · intro W hW; go_simp
  try simp only [List.getElem_toArray, List.getElem_cons_zero, Act.put, List.setIfInBounds_toArray, List.set_cons_zero, List.set_cons_succ]
  refine wpAnyH_take (i := 1) (v := .pointer (some ⟨g, 0, none⟩)) rfl (by kernel_rfl) (by kernel_rfl) (by kernel_rfl) (fun _ _ _ h => h) (.inl ⟨by rfl, ?_⟩) (by assumption) ?_
  · intro W hW; go_simp
  try simp only [List.getElem_toArray, List.getElem_cons_zero, List.getElem_cons_succ, Act.put, List.setIfInBounds_toArray, List.set_cons_zero, List.set_cons_succ]
  refine wpAnyH_take (i := 2) (v := .pointer (some ⟨g, 0, none⟩)) rfl (by kernel_rfl) (by kernel_rfl) (by kernel_rfl) (fun _ _ _ h => h) (.inl ⟨by rfl, ?_⟩) (by assumption) ?_
  · intro W hW; go_simp
  try simp only [List.getElem_toArray, List.getElem_cons_zero, List.getElem_cons_succ, Act.put, List.setIfInBounds_toArray, List.set_cons_zero, List.set_cons_succ]
  refine wpAnyH_take (i := 3) (v := .bool buy) rfl (by kernel_rfl) (by kernel_rfl) (by kernel_rfl) (fun _ _ _ h => h) (.inl ⟨by rfl, ?_⟩) (by assumption) ?_
  · intro W hW; have h1 := C0.out W hW; go_simp
  try simp only [List.getElem_toArray, List.getElem_cons_zero, List.getElem_cons_succ, Act.put, List.setIfInBounds_toArray, List.set_cons_zero, List.set_cons_succ]
  refine wpAnyH_take (i := 4) (v := .pointer (some ⟨g, 0, none⟩)) rfl (by kernel_rfl) (by kernel_rfl) (by kernel_rfl) (fun _ _ _ h => h) (.inl ⟨by rfl, ?_⟩) (by assumption) ?_
  · intro W hW; go_simp
  try simp only [List.getElem_toArray, List.getElem_cons_zero, List.getElem_cons_succ, Act.put, List.setIfInBounds_toArray, List.set_cons_zero, List.set_cons_succ]
  refine wpAnyH_take (i := 5) (v := .pointer (some ⟨g, 0, none⟩)) rfl (by kernel_rfl) (by kernel_rfl) (by kernel_rfl) (fun _ _ _ h => h) (.inl ⟨by rfl, ?_⟩) (by assumption) ?_
  · intro W hW; go_simp
  try simp only [List.getElem_toArray, List.getElem_cons_zero, List.getElem_cons_succ, Act.put, List.setIfInBounds_toArray, List.set_cons_zero, List.set_cons_succ]
  refine wpAnyH_take (i := 6) (v := .pointer (some ⟨g, 1, none⟩)) rfl (by kernel_rfl) (by kernel_rfl) (by kernel_rfl) (fun _ _ _ h => h) (.inl ⟨by rfl, ?_⟩) (by assumption) ?_
  · intro W hW; go_simp
  try simp only [List.getElem_toArray, List.getElem_cons_zero, List.getElem_cons_succ, Act.put, List.setIfInBounds_toArray, List.set_cons_zero, List.set_cons_succ]
  refine wpAnyH_take (i := 7) (v := .slice A m c) rfl (by kernel_rfl) (by kernel_rfl) (by kernel_rfl) (fun _ _ _ h => h) (.inl ⟨by rfl, ?_⟩) (by assumption) ?_
  · intro W hW; have h1 := C1.out W hW; go_simp
  try simp only [List.getElem_toArray, List.getElem_cons_zero, List.getElem_cons_succ, Act.put, List.setIfInBounds_toArray, List.set_cons_zero, List.set_cons_succ]
  refine wpAnyH_ready (rs := [8]) (by decide +kernel) (by simp) (AllReadyH.cons rfl (fun KQ hK => ?_) AllReadyH.nil)
  go_simp
  refine (FS.out _ hH).mono ?_; rintro e0 W2 ⟨rfl, q1⟩
  have hH2 := hH.trans (q1.mono hH.size)
  refine hK.out _ _ hH2 (fun _ => ?_)
  clear hK q1 hH
  try simp only [List.setIfInBounds_toArray, List.set_cons_zero, List.set_cons_succ]
  refine wpAnyH_take (i := 9) (v := .int .i64 k) rfl (by kernel_rfl) (by kernel_rfl) (by kernel_rfl) (fun _ _ _ h => h) (.inl ⟨by rfl, ?_⟩) (by assumption) ?_
  · intro W hW; go_simp
  try simp only [List.getElem_toArray, List.getElem_cons_zero, List.getElem_cons_succ, Act.put, List.setIfInBounds_toArray, List.set_cons_zero, List.set_cons_succ]
  refine wpAnyH_done (by decide +kernel) ?_ _
  have Q2 := Lib.hid hH2
  have k2 := C1.out _ hH2
  clear hH2
  subst hA
  go_wp2_with (first | ((with_reducible refine gwl_load TO b (k * 5) (RG.out _ Q2.out) ?_ ?_ ?_); rfl; rfl) | (refine gwl_store TO x w.heap.size (X1.out _ Q2.out) rfl rfl ?_))
  exact bodyPost_ret (gret TO rfl _ _ w.heap.size rfl rfl (gbx_set (X1.out _ Q2.out))) rfl ⟨rfl, row_inO (Nat.le_refl _) (B1.out.trans (Q2.out.mono B1.out.size))⟩
end Go.Proofs.Ytpnccbcaoifdiaa
