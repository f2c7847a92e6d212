/- The walk of the statement WireOnly, given the program's own calls. -/
import Derived.Test.YtehmheohojnpmaaRk
import Derived.Test.YtehmheohojnpmaaWx
namespace Go.Proofs.Ytehmheohojnpmaa
open Go.RowKit

set_option maxRecDepth 100000 in
set_option maxHeartbeats 4000000 in
theorem again_any (K : Reads) (g gx : Nat) (F : Nat → Prop) (A A2 : Option Addr) (n c c2 : Nat) (bs l f : List Int) (e : Int) (w : World) (hr : K.Wr w g F l e) (hx : w.cell? ⟨gx, 0, none⟩ = some (.slice A n c)) (h : RdB w A n bs) (h2 : RdB w A2 f.length f) (hn : n ≤ 100000) (hc : n ≤ c)
    (hl : l.length ≤ n) (hcase : (e ≠ 0 ∧ l.length = n) ∨ (e = 0 ∧ l.length < n ∧ f = bs.take (n - l.length))) :
    Calls Try.prog 38 #[.pointer (some ⟨g, 0, none⟩), .slice A2 f.length c2, .pointer (some ⟨gx, 0, none⟩)] w fun E w' => E = .returned (.bool true) ∧ Below w.heap.size w w' := by
  have BX : Hid (∀ U, Below w.heap.size w U → U.cell? ⟨gx, 0, none⟩ = some (.slice A n c)) := Lib.hid (fun U hU => (hU.cell (p := ⟨gx, 0, none⟩) (World.block_lt_of_cell? w _ hx)).trans hx)
  have LE : Hid (∀ U, Below w.heap.size w U → Calls Try.prog 35 #[.pointer (some ⟨g, 0, none⟩)] U fun E W' => E = .returned (.int .i64 l.length) ∧ Below U.heap.size U W') := Lib.hid (fun U hU => K.left U g F l e (K.below hr hU) (by omega))
  have DE : Hid (∀ U, Below w.heap.size w U → Calls Try.prog 36 #[.pointer (some ⟨g, 0, none⟩)] U fun E W' => E = .returned (.int .i64 (if e = 0 ∧ 0 < l.length then 5 else e)) ∧ Below U.heap.size U W') := Lib.hid (fun U hU => K.done U g F l e (K.below hr hU) (by omega))
  have HA := Lib.hid h
  have RF := Lib.hid h2
  obtain ⟨ll, hll⟩ : ∃ ll, l.length = ll := ⟨_, rfl⟩
  rw [hll] at LE DE hcase hl
  rcases hcase with ⟨he, hle⟩ | ⟨he, hlt, hf⟩
  · subst hle
    rw [if_neg (fun c => he c.1)] at DE
    have DL : Hid (decide ((ll : Int) = (ll : Int)) = true) := Lib.hid (decide_eq_true rfl)
    have DL2 : Hid (((ll : Int) == ll) = true) := Lib.hid (by simp)
    have he1 : decide (e = 0) = false := decide_eq_false he
    have he2 : (e == 0) = false := by simpa using he
    have HE9 := Lib.hid he
    clear hr hx h h2 he hll
    go_enter Try.func38, Try.ntmps38
    go_wp2_with fail
    refine wp_region_held_drew (S := fun U => Below w.heap.size w U) (by kernel_rfl) (Below.refl _ _).drew (fun hH => ?_)
    refine wpAnyH_take (i := 0) (v := .pointer (some ⟨g, 0, none⟩)) rfl (by kernel_rfl) (by kernel_rfl) (by kernel_rfl) (fun _ _ _ h => h) (.inl ⟨by rfl, ?_⟩) (by assumption) ?_
    · intro W hW; go_simp
    try simp only [List.getElem_toArray, List.getElem_cons_zero, Act.put, List.setIfInBounds_toArray, List.set_cons_zero, List.set_cons_succ]
    refine wpAnyH_take (i := 2) (v := .slice A ll c) rfl (by kernel_rfl) (by kernel_rfl) (by kernel_rfl) (fun _ _ _ h => h) (.inl ⟨by rfl, ?_⟩) (by assumption) ?_
    · intro W hW; have b1 := BX.out _ hW; go_simp
    try simp only [List.getElem_toArray, List.getElem_cons_zero, List.getElem_cons_succ, Act.put, List.setIfInBounds_toArray, List.set_cons_zero, List.set_cons_succ]
    refine wpAnyH_take (i := 3) (v := .int .i64 ll) rfl (by kernel_rfl) (by kernel_rfl) (by kernel_rfl) (fun _ _ _ h => h) (.inl ⟨by rfl, ?_⟩) (by assumption) ?_
    · intro W hW; go_simp
    try simp only [List.getElem_toArray, List.getElem_cons_zero, List.getElem_cons_succ, Act.put, List.setIfInBounds_toArray, List.set_cons_zero, List.set_cons_succ]
    refine wpAnyH_ready (rs := [1]) (by decide +kernel) (by simp) (AllReadyH.cons rfl (fun K1 hK => ?_) AllReadyH.nil)
    go_simp
    refine (LE.out _ hH).mono ?_; rintro e0 W1 ⟨rfl, q5⟩
    have hH := hH.trans (q5.mono hH.size)
    refine hK.out _ _ hH (fun _ => ?_)
    clear hK q5
    try simp only [List.getElem_toArray, List.getElem_cons_zero, List.getElem_cons_succ, Act.put, List.setIfInBounds_toArray, List.set_cons_zero, List.set_cons_succ]
    refine wpAnyH_take (i := 4) (v := .bool true) rfl (by kernel_rfl) (by kernel_rfl) (by kernel_rfl) (fun _ _ _ h => h) (.inl ⟨by rfl, ?_⟩) (by assumption) ?_
    · intro W hW; have d1 := DL.out; have d2 := DL2.out; go_simp
    try simp only [List.getElem_toArray, List.getElem_cons_zero, List.getElem_cons_succ, Act.put, List.setIfInBounds_toArray, List.set_cons_zero, List.set_cons_succ]
    refine wpAnyH_done (by decide +kernel) ?_ _
    have HH := Lib.hid hH
    clear hH
    go_wp2_with fail
    refine (DE.out _ HH.out).mono ?_; rintro e0 W2 ⟨rfl, q⟩
    have HH2 := Lib.hid (HH.out.trans (q.mono HH.out.size))
    clear q
    go_wp2_with fail
    go_ret
    refine ⟨?_, HH2.out⟩
    simp [HE9.out]
  · have DL : Hid (decide ((ll : Int) = n) = false) := Lib.hid (decide_eq_false (by omega))
    have DL2 : Hid (((ll : Int) == n) = false) := Lib.hid (by simp; omega)
    have HF : Hid (strOfNums f = strOfNums (bs.take (n - ll))) := Lib.hid (by rw [hf])
    clear hr hx h h2 he hll hf DE
    go_enter Try.func38, Try.ntmps38
    go_wp2_with fail
    refine wp_region_held_drew (S := fun U => Below w.heap.size w U) (by kernel_rfl) (Below.refl _ _).drew (fun hH => ?_)
    refine wpAnyH_take (i := 0) (v := .pointer (some ⟨g, 0, none⟩)) rfl (by kernel_rfl) (by kernel_rfl) (by kernel_rfl) (fun _ _ _ h => h) (.inl ⟨by rfl, ?_⟩) (by assumption) ?_
    · intro W hW; go_simp
    try simp only [List.getElem_toArray, List.getElem_cons_zero, Act.put, List.setIfInBounds_toArray, List.set_cons_zero, List.set_cons_succ]
    refine wpAnyH_take (i := 2) (v := .slice A n c) rfl (by kernel_rfl) (by kernel_rfl) (by kernel_rfl) (fun _ _ _ h => h) (.inl ⟨by rfl, ?_⟩) (by assumption) ?_
    · intro W hW; have b1 := BX.out _ hW; go_simp
    try simp only [List.getElem_toArray, List.getElem_cons_zero, List.getElem_cons_succ, Act.put, List.setIfInBounds_toArray, List.set_cons_zero, List.set_cons_succ]
    refine wpAnyH_take (i := 3) (v := .int .i64 n) rfl (by kernel_rfl) (by kernel_rfl) (by kernel_rfl) (fun _ _ _ h => h) (.inl ⟨by rfl, ?_⟩) (by assumption) ?_
    · intro W hW; go_simp
    try simp only [List.getElem_toArray, List.getElem_cons_zero, List.getElem_cons_succ, Act.put, List.setIfInBounds_toArray, List.set_cons_zero, List.set_cons_succ]
    refine wpAnyH_ready (rs := [1]) (by decide +kernel) (by simp) (AllReadyH.cons rfl (fun K1 hK => ?_) AllReadyH.nil)
    go_simp
    refine (LE.out _ hH).mono ?_; rintro e0 W1 ⟨rfl, q5⟩
    have hH := hH.trans (q5.mono hH.size)
    refine hK.out _ _ hH (fun _ => ?_)
    clear hK q5
    try simp only [List.getElem_toArray, List.getElem_cons_zero, List.getElem_cons_succ, Act.put, List.setIfInBounds_toArray, List.set_cons_zero, List.set_cons_succ]
    refine wpAnyH_take (i := 4) (v := .bool false) rfl (by kernel_rfl) (by kernel_rfl) (by kernel_rfl) (fun _ _ _ h => h) (.inl ⟨by rfl, ?_⟩) (by assumption) ?_
    · intro W hW; have d1 := DL.out; have d2 := DL2.out; go_simp
    try simp only [List.getElem_toArray, List.getElem_cons_zero, List.getElem_cons_succ, Act.put, List.setIfInBounds_toArray, List.set_cons_zero, List.set_cons_succ]
    refine wpAnyH_done (by decide +kernel) ?_ _
    have HH := Lib.hid hH
    clear hH
    go_wp2_with fail
    refine wp_region_held_drew (S := fun U => Below w.heap.size w U) (by kernel_rfl) HH.out.drew (fun hH => ?_)
    refine wpAnyH_take (i := 0) (v := .slice A2 f.length c2) rfl (by kernel_rfl) (by kernel_rfl) (by kernel_rfl) (fun _ _ _ h => h) (.inl ⟨by rfl, ?_⟩) (by assumption) ?_
    · intro W hW; go_simp
    try simp only [List.getElem_toArray, List.getElem_cons_zero, Act.put, List.setIfInBounds_toArray, List.set_cons_zero, List.set_cons_succ]
    refine wpAnyH_take (i := 1) (v := .string (strOfNums f)) rfl (by kernel_rfl) (by kernel_rfl) (by kernel_rfl) (fun _ _ _ h => h) (.inl ⟨by rfl, ?_⟩) (by assumption) ?_
    · intro W hW; have k2 := conv_any (c := c2) (RF.out.below hW); go_simp
    try simp only [List.getElem_toArray, List.getElem_cons_zero, List.getElem_cons_succ, Act.put, List.setIfInBounds_toArray, List.set_cons_zero, List.set_cons_succ]
    refine wpAnyH_take (i := 2) (v := .slice A n c) rfl (by kernel_rfl) (by kernel_rfl) (by kernel_rfl) (fun _ _ _ h => h) (.inl ⟨by rfl, ?_⟩) (by assumption) ?_
    · intro W hW; have b1 := BX.out _ hW; go_simp
    try simp only [List.getElem_toArray, List.getElem_cons_zero, List.getElem_cons_succ, Act.put, List.setIfInBounds_toArray, List.set_cons_zero, List.set_cons_succ]
    refine wpAnyH_take (i := 3) (v := .slice A n c) rfl (by kernel_rfl) (by kernel_rfl) (by kernel_rfl) (fun _ _ _ h => h) (.inl ⟨by rfl, ?_⟩) (by assumption) ?_
    · intro W hW; have b1 := BX.out _ hW; go_simp
    try simp only [List.getElem_toArray, List.getElem_cons_zero, List.getElem_cons_succ, Act.put, List.setIfInBounds_toArray, List.set_cons_zero, List.set_cons_succ]
    refine wpAnyH_take (i := 4) (v := .int .i64 n) rfl (by kernel_rfl) (by kernel_rfl) (by kernel_rfl) (fun _ _ _ h => h) (.inl ⟨by rfl, ?_⟩) (by assumption) ?_
    · intro W hW; go_simp
    try simp only [List.getElem_toArray, List.getElem_cons_zero, List.getElem_cons_succ, Act.put, List.setIfInBounds_toArray, List.set_cons_zero, List.set_cons_succ]
    refine wpAnyH_take (i := 5) (v := .pointer (some ⟨g, 0, none⟩)) rfl (by kernel_rfl) (by kernel_rfl) (by kernel_rfl) (fun _ _ _ h => h) (.inl ⟨by rfl, ?_⟩) (by assumption) ?_
    · intro W hW; go_simp
    try simp only [List.getElem_toArray, List.getElem_cons_zero, List.getElem_cons_succ, Act.put, List.setIfInBounds_toArray, List.set_cons_zero, List.set_cons_succ]
    refine wpAnyH_ready (rs := [6]) (by decide +kernel) (by simp) (AllReadyH.cons rfl (fun K1 hK => ?_) AllReadyH.nil)
    go_simp
    refine (LE.out _ hH).mono ?_; rintro e0 W2 ⟨rfl, q5⟩
    have hH := hH.trans (q5.mono hH.size)
    refine hK.out _ _ hH (fun _ => ?_)
    clear hK q5
    try simp only [List.getElem_toArray, List.getElem_cons_zero, List.getElem_cons_succ, Act.put, List.setIfInBounds_toArray, List.set_cons_zero, List.set_cons_succ]
    refine wpAnyH_take (i := 7) (v := .int .i64 ((n : Int) - ll)) rfl (by kernel_rfl) (by kernel_rfl) (by kernel_rfl) (fun _ _ _ h => h) (.inl ⟨by rfl, ?_⟩) (by assumption) ?_
    · intro W hW; have hb : (ll : Int) ≤ n := (by omega); have hb2 : (n : Int) ≤ 100000 := (by omega); go_simp; (rw [IntKind.wrap_i64]; omega)
    try simp only [List.getElem_toArray, List.getElem_cons_zero, List.getElem_cons_succ, Act.put, List.setIfInBounds_toArray, List.set_cons_zero, List.set_cons_succ]
    refine wpAnyH_take (i := 8) (v := .slice A (n - ll) c) rfl (by kernel_rfl) (by kernel_rfl) (by kernel_rfl) (fun _ _ _ h => h) (.inl ⟨by rfl, ?_⟩) (by assumption) ?_
    · intro W hW; go_simp; try (intro h; exfalso; omega)
    try simp only [List.getElem_toArray, List.getElem_cons_zero, List.getElem_cons_succ, Act.put, List.setIfInBounds_toArray, List.set_cons_zero, List.set_cons_succ]
    refine wpAnyH_take (i := 9) (v := .string (strOfNums (bs.take (n - ll)))) rfl (by kernel_rfl) (by kernel_rfl) (by kernel_rfl) (fun _ _ _ h => h) (.inl ⟨by rfl, ?_⟩) (by assumption) ?_
    · intro W hW; have k2 := conv_any (c := c) ((HA.out.below hW).front (show n - ll ≤ n by omega)); go_simp
    try simp only [List.getElem_toArray, List.getElem_cons_zero, List.getElem_cons_succ, Act.put, List.setIfInBounds_toArray, List.set_cons_zero, List.set_cons_succ]
    refine wpAnyH_take (i := 10) (v := .bool true) rfl (by kernel_rfl) (by kernel_rfl) (by kernel_rfl) (fun _ _ _ h => h) (.inl ⟨by rfl, ?_⟩) (by assumption) ?_
    · intro W hW; have e1 := HF.out; go_simp
    try simp only [List.getElem_toArray, List.getElem_cons_zero, List.getElem_cons_succ, Act.put, List.setIfInBounds_toArray, List.set_cons_zero, List.set_cons_succ]
    refine wpAnyH_take (i := 11) (v := .bool true) rfl (by kernel_rfl) (by kernel_rfl) (by kernel_rfl) (fun _ _ _ h => h) (.inl ⟨by rfl, ?_⟩) (by assumption) ?_
    · intro W hW; go_simp
    try simp only [List.getElem_toArray, List.getElem_cons_zero, List.getElem_cons_succ, Act.put, List.setIfInBounds_toArray, List.set_cons_zero, List.set_cons_succ]
    refine wpAnyH_done (by decide +kernel) ?_ _
    have HH3 := Lib.hid hH
    clear hH
    go_wp2_with fail
    go_ret
    exact ⟨rfl, HH3.out⟩
end Go.Proofs.Ytehmheohojnpmaa
