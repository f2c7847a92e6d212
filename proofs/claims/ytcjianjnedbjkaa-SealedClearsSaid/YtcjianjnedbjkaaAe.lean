/- slices.SortStableFunc at a struct (by genSort.py): the insertion sort, with a comparison that tells the order of keys: it puts a part of the row in order. Conditions: the places rise in that part; the part lies within the row. -/
import Derived.Test.YtcjianjnedbjkaaAd
namespace Go.Proofs.Ytcjianjnedbjkaa
open Go.RowKit Go.Shelf
set_option linter.unusedVariables false
set_option linter.unusedSimpArgs false

/-- What the comparison tells of two places: the one of the greater key comes first. -/
def cmo8 (key : Int → Int) (x y : Int) : Int := if key y < key x then -1 else if key x < key y then 1 else 0
theorem cm_lto8 {key : Int → Int} {x y : Int} : cmo8 key x y < 0 ↔ key y < key x := by unfold cmo8; split <;> (try split) <;> omega
theorem cm_bdo8 (key : Int → Int) (x y : Int) : -1 ≤ cmo8 key x y ∧ cmo8 key x y ≤ 1 := by unfold cmo8; split <;> (try split) <;> omega
/-- The comparison tells the keys' order, wherever the row is; what it makes is its own. -/
def Cpo8 (w : World) (blk cap N : Nat) (l0 : List Or) (key : Int → Int) (K gf : Nat) (lb : Array Value) : Prop := ∀ f W, Ono8 w blk cap N l0 f W → ∀ x y : Int, 0 ≤ x → x < K → 0 ≤ y → y < K →
  Calls Try.prog gf (#[.agg (EO.cells (pko8 l0 x)).toArray, .agg (EO.cells (pko8 l0 y)).toArray] ++ lb) W fun e w' => e = .returned (.int .i64 (cmo8 key x y)) ∧ Below W.heap.size W w'
/-- All places of the row are places of keys. -/
def Alo8 (N K : Nat) (f : Nat → Int) : Prop := ∀ t, t < N → 0 ≤ f t ∧ f t < K
theorem Alo8.mg {N K : Nat} {key : Int → Int} {f g : Nat → Int} {a b : Nat} (h : Alo8 N K f) (M : St.Mg key f g a b) (hb : b ≤ N) : Alo8 N K g := fun t ht => by
  by_cases c : a ≤ t ∧ t < b
  · obtain ⟨k, k1, k2, k3⟩ := (M.2.1 (g t)).1 ⟨t, c.1, c.2, rfl⟩
    rw [← k3]; exact h k (by omega)
  · rw [M.1 t (by omega)]; exact h t ht
theorem Alo8.rot {N K : Nat} {f : Nat → Int} {a m b : Nat} (h : Alo8 N K f) (h1 : a ≤ m) (h2 : m ≤ b) (hb : b ≤ N) : Alo8 N K (St.rot a m b f) := fun t ht => by
  unfold St.rot
  split
  · split
    · exact h _ (by omega)
    · exact h _ (by omega)
  · exact h t ht
theorem cp_callo8 {w : World} {blk cap N K gf : Nat} {l0 : List Or} {key : Int → Int} {lb : Array Value} (C : Cpo8 w blk cap N l0 key K gf lb) {f : Nat → Int} {W : World} (hO : Ono8 w blk cap N l0 f W) (hA : Alo8 N K f) {i j : Nat} (hi : i < N) (hj : j < N) {c : Int} (hc : cmo8 key (f i) (f j) = c) :
    Calls Try.prog gf (#[.agg (EO.cells (pko8 l0 (f i))).toArray, .agg (EO.cells (pko8 l0 (f j))).toArray] ++ lb) W fun e w' => e = .returned (.int .i64 c) ∧ Below W.heap.size W w' := by
  rw [← hc]
  exact C f _ hO _ _ (hA i hi).1 (hA i hi).2 (hA j hj).1 (hA j hj).2
theorem mg_stepo8 {key : Int → Int} {f g h : Nat → Int} {a i : Nat} (M : St.Mg key f g a i) (L : St.Mg key g h a (i + 1)) (hi : a ≤ i) : St.Mg key f h a (i + 1) := by
  refine ⟨fun k hk => by rw [L.1 k hk, M.1 k (by omega)], fun v => ?_, L.2.2⟩
  rw [L.2.1 v, St.Im.split hi (by omega), St.Im.split (f := f) (m := i) hi (by omega), M.2.1 v, St.Im.like (f := f) fun k k1 _ => M.1 k (.inr k1)]

set_option maxRecDepth 100000 in
set_option maxHeartbeats 4000000 in
theorem insert_o8 (w : World) (blk N cap K : Nat) (l0 : List Or) (hN : N < 4611686018427387904) (key : Int → Int) (gf : Nat) (lb : Array Value) (eg : ∀ args w, (callFunc gf args).run Try.prog w = .ok (.enter gf args) w) (C : Cpo8 w blk cap N l0 key K gf lb) (a b : Nat) (f : Nat → Int) (W : World) (hO : Ono8 w blk cap N l0 f W)
    (hA : Alo8 N K f) (h1 : a ≤ b) (h2 : b ≤ N) (hinc : ∀ s t, a ≤ s → s < t → t < b → f s < f t) :
    Calls Try.prog 28 #[.slice (some ⟨blk, 0, none⟩) N cap, .int .i64 a, .int .i64 b, .func (.func gf) #[] lb] W fun e w' => e = .returned (.tuple #[]) ∧ ∃ g, Ono8 w blk cap N l0 g w' ∧ St.Mg key f g a b := by
  have HI := Lib.hid hinc
  have HC := Lib.hid C
  clear hinc C
  go_enter Try.func28, Try.ntmps28
  go_wp2
  go_loopw [8] (fun vi wr => ∃ (i : Nat) (g : Nat → Int), vi = .int .i64 i ∧ a < i ∧ i ≤ b + 1 ∧ Ono8 w blk cap N l0 g wr ∧ St.Mg key f g a i ∧ (b < i → g = f ∧ b ≤ a)) (fun vi _ => b + 1 - (intOf vi).toNat)
  case atStart => exact ⟨a + 1, f, by go_num, by omega, by omega, hO, St.Mg.self (St.So.one f (by omega)), fun _ => ⟨rfl, by omega⟩⟩
  case round =>
    obtain ⟨i, g, rfl, hai, hib, hR, hM, hE⟩ := hrel
    have HM := Lib.hid hM
    have HE := Lib.hid hE
    clear hM hE hO
    by_cases hlt : i < b
    · have hAg := Lib.hid (hA.mg HM.out (by omega))
      have hgi := Lib.hid (HM.out.1 i (.inr (Nat.le_refl _)))
      have hless : Hid (∀ t, a ≤ t → t < i → g t < g i) := Lib.hid fun t t1 t2 => by
        obtain ⟨k, k1, k2, k3⟩ := (HM.out.2.1 (g t)).1 ⟨t, t1, t2, rfl⟩
        rw [hgi.out, ← k3]
        exact HI.out k i k1 k2 hlt
      go_wp2
      go_loopw [9] (fun vj wr2 => ∃ j : Nat, vj = .int .i64 j ∧ a ≤ j ∧ j ≤ i ∧ Ono8 w blk cap N l0 (St.rot j i (i + 1) g) wr2 ∧ (j < i → St.lt key (g i) (g j))) (fun vj _ => (intOf vj).toNat)
      case atStart => exact ⟨i, rfl, by omega, Nat.le_refl _, by rw [St.rot_none1 _ _ _ (by omega)]; exact hR, fun h => absurd h (Nat.lt_irrefl _)⟩
      case round =>
        clear hR
        obtain ⟨j, rfl, haj, hji, hR, hJ⟩ := hrel
        have hAr := Lib.hid (hAg.out.rot (a := j) (m := i) (b := i + 1) hji (by omega) (by omega))
        obtain ⟨G, hG⟩ : ∃ G, St.rot j i (i + 1) g = G := ⟨_, rfl⟩
        have HJ := Lib.hid hJ
        have HG := Lib.hid hG
        rw [hG] at hR hAr
        clear hJ
        have OUT : Hid ((a < j → St.lt key (g (j - 1)) (g i)) → ∀ U, Ono8 w blk cap N l0 G U → ∃ (i' : Nat) (g' : Nat → Int), Value.int .i64 ((i : Int) + 1) = .int .i64 (i' : Nat) ∧ a < i' ∧ i' ≤ b + 1 ∧ Ono8 w blk cap N l0 g' U ∧ St.Mg key f g' a i' ∧ (b < i' → g' = f ∧ b ≤ a)) :=
          Lib.hid fun hl U hU => ⟨i + 1, G, by go_num, by omega, by omega, hU, by
            rw [← HG.out]
            exact mg_stepo8 HM.out (St.last_in haj hji hl HJ.out HM.out.2.2) (by omega), fun h => by omega⟩
        clear hG
        have HR := Lib.hid hR
        by_cases hja : a < j
        · have e1 := Lib.hid (show G j = g i by rw [← HG.out, St.rot_left (Nat.le_refl _) (by omega) hji (by omega)]; congr 1; omega)
          have e2 := Lib.hid (show G (j - 1) = g (j - 1) by rw [← HG.out]; exact St.rot_out (.inl (by omega)))
          obtain ⟨q, hq⟩ : ∃ q : Nat, j - 1 = q := ⟨_, rfl⟩
          have HQ := Lib.hid hq
          have eq : (j : Int) - 1 = (q : Int) := by omega
          have q1 : q < N := by omega
          have j1 : j < N := by omega
          have haji : (a : Int) < (j : Int) := by omega
          have wq : IntKind.i64.wrap (q : Int) = (q : Int) := by rw [IntKind.wrap_i64]; omega
          rw [hq] at e2
          obtain ⟨c, hcm⟩ : ∃ c, cmo8 key (G j) (G q) = c := ⟨_, rfl⟩
          have hcb := cm_bdo8 key (G j) (G q)
          have CC := Lib.hid fun U hU => cp_callo8 (W := U) HC.out hU hAr.out (i := j) (j := q) (by omega) (by omega) hcm
          have LT := Lib.hid (cm_lto8 (key := key) (x := G j) (y := G q))
          rw [hcm] at hcb LT
          clear hcm hq
          cases hk : decide (c < 0)
          · have hl : a < j → St.lt key (g (j - 1)) (g i) := fun _ => by
              have h3 := hless.out (j - 1) (by omega) (by omega)
              refine St.lt_no h3 fun h4 => ?_
              rw [e1.out, e2.out, ← HQ.out] at LT
              have := LT.out.2 h4
              simp at hk
              omega
            have O2 := Lib.hid (OUT.out hl)
            clear OUT hl
            go_wp2
            refine wp_region_held_drew (S := fun U => Ono8 w blk cap N l0 G U) (by kernel_rfl) (hR.drewN 1) (fun hH => ?_)
            refine wpAnyH_take (i := 0) (v := .int .i64 j) rfl (by kernel_rfl) (by kernel_rfl) (by kernel_rfl) (fun _ _ _ h => h) (.inl ⟨by rfl, ?_⟩) (by assumption) ?_
            · intro W hW; go_simp
            try simp only [List.getElem_toArray, List.getElem_cons_zero, Act.put, List.setIfInBounds_toArray, List.set_cons_zero, List.set_cons_succ]
            refine wpAnyH_take (i := 1) (v := .int .i64 a) rfl (by kernel_rfl) (by kernel_rfl) (by kernel_rfl) (fun _ _ _ h => h) (.inl ⟨by rfl, ?_⟩) (by assumption) ?_
            · intro W hW; go_simp
            try simp only [List.getElem_toArray, List.getElem_cons_zero, List.getElem_cons_succ, Act.put, List.setIfInBounds_toArray, List.set_cons_zero, List.set_cons_succ]
            refine wpAnyH_take (i := 2) (v := .bool true) rfl (by kernel_rfl) (by kernel_rfl) (by kernel_rfl) (fun _ _ _ h => h) (.inl ⟨by rfl, ?_⟩) (by assumption) ?_
            · intro W hW; go_simp
            try simp only [List.getElem_toArray, List.getElem_cons_zero, List.getElem_cons_succ, Act.put, List.setIfInBounds_toArray, List.set_cons_zero, List.set_cons_succ]
            refine wpAnyH_take (i := 3) (v := .bool true) rfl (by kernel_rfl) (by kernel_rfl) (by kernel_rfl) (fun _ _ _ h => h) (.inl ⟨by rfl, ?_⟩) (by assumption) ?_
            · intro W hW; go_simp
            try simp only [List.getElem_toArray, List.getElem_cons_zero, List.getElem_cons_succ, Act.put, List.setIfInBounds_toArray, List.set_cons_zero, List.set_cons_succ]
            refine wpAnyH_take (i := 4) (v := .func (.func gf) #[] lb) rfl (by kernel_rfl) (by kernel_rfl) (by kernel_rfl) (fun _ _ _ h => h) (.inl ⟨by rfl, ?_⟩) (by assumption) ?_
            · intro W hW; go_simp
            try simp only [List.getElem_toArray, List.getElem_cons_zero, List.getElem_cons_succ, Act.put, List.setIfInBounds_toArray, List.set_cons_zero, List.set_cons_succ]
            refine wpAnyH_take (i := 5) (v := .slice (some ⟨blk, 0, none⟩) N cap) rfl (by kernel_rfl) (by kernel_rfl) (by kernel_rfl) (fun _ _ _ h => h) (.inl ⟨by rfl, ?_⟩) (by assumption) ?_
            · intro W hW; go_simp
            try simp only [List.getElem_toArray, List.getElem_cons_zero, List.getElem_cons_succ, Act.put, List.setIfInBounds_toArray, List.set_cons_zero, List.set_cons_succ]
            refine wpAnyH_take (i := 6) (v := .int .i64 j) rfl (by kernel_rfl) (by kernel_rfl) (by kernel_rfl) (fun _ _ _ h => h) (.inl ⟨by rfl, ?_⟩) (by assumption) ?_
            · intro W hW; go_simp
            try simp only [List.getElem_toArray, List.getElem_cons_zero, List.getElem_cons_succ, Act.put, List.setIfInBounds_toArray, List.set_cons_zero, List.set_cons_succ]
            refine wpAnyH_take (i := 7) (v := .pointer (some ⟨blk, j * 5, none⟩)) rfl (by kernel_rfl) (by kernel_rfl) (by kernel_rfl) (fun _ _ _ h => h) (.inl ⟨by rfl, ?_⟩) (by assumption) ?_
            · intro W hW; go_simp
            try simp only [List.getElem_toArray, List.getElem_cons_zero, List.getElem_cons_succ, Act.put, List.setIfInBounds_toArray, List.set_cons_zero, List.set_cons_succ]
            refine wpAnyH_take (i := 8) (v := .agg (EO.cells (pko8 l0 (G j))).toArray) rfl (by kernel_rfl) (by kernel_rfl) (by kernel_rfl) (fun _ _ _ h => h) (gyields_load TO (by rfl) (.tmp 25) rfl blk (j * 5) rfl (fun U hU => hU.rng (by omega))) (by assumption) ?_
            try simp only [List.getElem_toArray, List.getElem_cons_zero, List.getElem_cons_succ, Act.put, List.setIfInBounds_toArray, List.set_cons_zero, List.set_cons_succ]
            refine wpAnyH_take (i := 9) (v := .slice (some ⟨blk, 0, none⟩) N cap) rfl (by kernel_rfl) (by kernel_rfl) (by kernel_rfl) (fun _ _ _ h => h) (.inl ⟨by rfl, ?_⟩) (by assumption) ?_
            · intro W hW; go_simp
            try simp only [List.getElem_toArray, List.getElem_cons_zero, List.getElem_cons_succ, Act.put, List.setIfInBounds_toArray, List.set_cons_zero, List.set_cons_succ]
            refine wpAnyH_take (i := 10) (v := .int .i64 j) rfl (by kernel_rfl) (by kernel_rfl) (by kernel_rfl) (fun _ _ _ h => h) (.inl ⟨by rfl, ?_⟩) (by assumption) ?_
            · intro W hW; go_simp
            try simp only [List.getElem_toArray, List.getElem_cons_zero, List.getElem_cons_succ, Act.put, List.setIfInBounds_toArray, List.set_cons_zero, List.set_cons_succ]
            refine wpAnyH_take (i := 11) (v := .int .i64 q) rfl (by kernel_rfl) (by kernel_rfl) (by kernel_rfl) (fun _ _ _ h => h) (.inl ⟨by rfl, ?_⟩) (by assumption) ?_
            · intro W hW; go_simp
            try simp only [List.getElem_toArray, List.getElem_cons_zero, List.getElem_cons_succ, Act.put, List.setIfInBounds_toArray, List.set_cons_zero, List.set_cons_succ]
            refine wpAnyH_take (i := 12) (v := .pointer (some ⟨blk, q * 5, none⟩)) rfl (by kernel_rfl) (by kernel_rfl) (by kernel_rfl) (fun _ _ _ h => h) (.inl ⟨by rfl, ?_⟩) (by assumption) ?_
            · intro W hW; go_simp
            try simp only [List.getElem_toArray, List.getElem_cons_zero, List.getElem_cons_succ, Act.put, List.setIfInBounds_toArray, List.set_cons_zero, List.set_cons_succ]
            refine wpAnyH_take (i := 13) (v := .agg (EO.cells (pko8 l0 (G q))).toArray) rfl (by kernel_rfl) (by kernel_rfl) (by kernel_rfl) (fun _ _ _ h => h) (gyields_load TO (by rfl) (.tmp 30) rfl blk (q * 5) rfl (fun U hU => hU.rng (by omega))) (by assumption) ?_
            try simp only [List.getElem_toArray, List.getElem_cons_zero, List.getElem_cons_succ, Act.put, List.setIfInBounds_toArray, List.set_cons_zero, List.set_cons_succ]
            refine wpAnyH_ready (rs := [14]) (by decide +kernel) (by simp) (AllReadyH.cons rfl (fun KQ hK => ?_) AllReadyH.nil)
            go_simp
            refine (CC.out _ hH).mono ?_; rintro e0 W1 ⟨rfl, q1⟩
            have hH1 := hH.below q1
            clear hH
            have hH := hH1
            clear hH1
            refine hK.out _ _ hH (fun _ => ?_)
            clear hK q1
            try simp only [List.setIfInBounds_toArray, List.set_cons_zero, List.set_cons_succ]
            refine wpAnyH_take (i := 15) (v := .bool false) rfl (by kernel_rfl) (by kernel_rfl) (by kernel_rfl) (fun _ _ _ h => h) (.inl ⟨by rfl, ?_⟩) (by assumption) ?_
            · intro W hW; go_simp
            try simp only [List.getElem_toArray, List.getElem_cons_zero, List.getElem_cons_succ, Act.put, List.setIfInBounds_toArray, List.set_cons_zero, List.set_cons_succ]
            refine wpAnyH_take (i := 16) (v := .bool false) rfl (by kernel_rfl) (by kernel_rfl) (by kernel_rfl) (fun _ _ _ h => h) (.inl ⟨by rfl, ?_⟩) (by assumption) ?_
            · intro W hW; go_simp
            try simp only [List.getElem_toArray, List.getElem_cons_zero, List.getElem_cons_succ, Act.put, List.setIfInBounds_toArray, List.set_cons_zero, List.set_cons_succ]
            refine wpAnyH_done (by decide +kernel) ?_ _
            have HR1 := Lib.hid hH
            clear hH
            go_wp2
            go_roundw
            case rel => exact O2.out _ HR1.out
            case measure => simp [intOf]; omega
          · have hl : St.lt key (g i) (g (j - 1)) := by
              rw [e1.out, e2.out, ← HQ.out] at LT
              exact St.lt_yes (LT.out.1 (of_decide_eq_true hk))
            have HL := Lib.hid hl
            clear OUT hl
            go_wp2
            refine wp_region_held_drew (S := fun U => Ono8 w blk cap N l0 G U) (by kernel_rfl) (hR.drewN 1) (fun hH => ?_)
            refine wpAnyH_take (i := 0) (v := .int .i64 j) rfl (by kernel_rfl) (by kernel_rfl) (by kernel_rfl) (fun _ _ _ h => h) (.inl ⟨by rfl, ?_⟩) (by assumption) ?_
            · intro W hW; go_simp
            try simp only [List.getElem_toArray, List.getElem_cons_zero, Act.put, List.setIfInBounds_toArray, List.set_cons_zero, List.set_cons_succ]
            refine wpAnyH_take (i := 1) (v := .int .i64 a) rfl (by kernel_rfl) (by kernel_rfl) (by kernel_rfl) (fun _ _ _ h => h) (.inl ⟨by rfl, ?_⟩) (by assumption) ?_
            · intro W hW; go_simp
            try simp only [List.getElem_toArray, List.getElem_cons_zero, List.getElem_cons_succ, Act.put, List.setIfInBounds_toArray, List.set_cons_zero, List.set_cons_succ]
            refine wpAnyH_take (i := 2) (v := .bool true) rfl (by kernel_rfl) (by kernel_rfl) (by kernel_rfl) (fun _ _ _ h => h) (.inl ⟨by rfl, ?_⟩) (by assumption) ?_
            · intro W hW; go_simp
            try simp only [List.getElem_toArray, List.getElem_cons_zero, List.getElem_cons_succ, Act.put, List.setIfInBounds_toArray, List.set_cons_zero, List.set_cons_succ]
            refine wpAnyH_take (i := 3) (v := .bool true) rfl (by kernel_rfl) (by kernel_rfl) (by kernel_rfl) (fun _ _ _ h => h) (.inl ⟨by rfl, ?_⟩) (by assumption) ?_
            · intro W hW; go_simp
            try simp only [List.getElem_toArray, List.getElem_cons_zero, List.getElem_cons_succ, Act.put, List.setIfInBounds_toArray, List.set_cons_zero, List.set_cons_succ]
            refine wpAnyH_take (i := 4) (v := .func (.func gf) #[] lb) rfl (by kernel_rfl) (by kernel_rfl) (by kernel_rfl) (fun _ _ _ h => h) (.inl ⟨by rfl, ?_⟩) (by assumption) ?_
            · intro W hW; go_simp
            try simp only [List.getElem_toArray, List.getElem_cons_zero, List.getElem_cons_succ, Act.put, List.setIfInBounds_toArray, List.set_cons_zero, List.set_cons_succ]
            refine wpAnyH_take (i := 5) (v := .slice (some ⟨blk, 0, none⟩) N cap) rfl (by kernel_rfl) (by kernel_rfl) (by kernel_rfl) (fun _ _ _ h => h) (.inl ⟨by rfl, ?_⟩) (by assumption) ?_
            · intro W hW; go_simp
            try simp only [List.getElem_toArray, List.getElem_cons_zero, List.getElem_cons_succ, Act.put, List.setIfInBounds_toArray, List.set_cons_zero, List.set_cons_succ]
            refine wpAnyH_take (i := 6) (v := .int .i64 j) rfl (by kernel_rfl) (by kernel_rfl) (by kernel_rfl) (fun _ _ _ h => h) (.inl ⟨by rfl, ?_⟩) (by assumption) ?_
            · intro W hW; go_simp
            try simp only [List.getElem_toArray, List.getElem_cons_zero, List.getElem_cons_succ, Act.put, List.setIfInBounds_toArray, List.set_cons_zero, List.set_cons_succ]
            refine wpAnyH_take (i := 7) (v := .pointer (some ⟨blk, j * 5, none⟩)) rfl (by kernel_rfl) (by kernel_rfl) (by kernel_rfl) (fun _ _ _ h => h) (.inl ⟨by rfl, ?_⟩) (by assumption) ?_
            · intro W hW; go_simp
            try simp only [List.getElem_toArray, List.getElem_cons_zero, List.getElem_cons_succ, Act.put, List.setIfInBounds_toArray, List.set_cons_zero, List.set_cons_succ]
            refine wpAnyH_take (i := 8) (v := .agg (EO.cells (pko8 l0 (G j))).toArray) rfl (by kernel_rfl) (by kernel_rfl) (by kernel_rfl) (fun _ _ _ h => h) (gyields_load TO (by rfl) (.tmp 25) rfl blk (j * 5) rfl (fun U hU => hU.rng (by omega))) (by assumption) ?_
            try simp only [List.getElem_toArray, List.getElem_cons_zero, List.getElem_cons_succ, Act.put, List.setIfInBounds_toArray, List.set_cons_zero, List.set_cons_succ]
            refine wpAnyH_take (i := 9) (v := .slice (some ⟨blk, 0, none⟩) N cap) rfl (by kernel_rfl) (by kernel_rfl) (by kernel_rfl) (fun _ _ _ h => h) (.inl ⟨by rfl, ?_⟩) (by assumption) ?_
            · intro W hW; go_simp
            try simp only [List.getElem_toArray, List.getElem_cons_zero, List.getElem_cons_succ, Act.put, List.setIfInBounds_toArray, List.set_cons_zero, List.set_cons_succ]
            refine wpAnyH_take (i := 10) (v := .int .i64 j) rfl (by kernel_rfl) (by kernel_rfl) (by kernel_rfl) (fun _ _ _ h => h) (.inl ⟨by rfl, ?_⟩) (by assumption) ?_
            · intro W hW; go_simp
            try simp only [List.getElem_toArray, List.getElem_cons_zero, List.getElem_cons_succ, Act.put, List.setIfInBounds_toArray, List.set_cons_zero, List.set_cons_succ]
            refine wpAnyH_take (i := 11) (v := .int .i64 q) rfl (by kernel_rfl) (by kernel_rfl) (by kernel_rfl) (fun _ _ _ h => h) (.inl ⟨by rfl, ?_⟩) (by assumption) ?_
            · intro W hW; go_simp
            try simp only [List.getElem_toArray, List.getElem_cons_zero, List.getElem_cons_succ, Act.put, List.setIfInBounds_toArray, List.set_cons_zero, List.set_cons_succ]
            refine wpAnyH_take (i := 12) (v := .pointer (some ⟨blk, q * 5, none⟩)) rfl (by kernel_rfl) (by kernel_rfl) (by kernel_rfl) (fun _ _ _ h => h) (.inl ⟨by rfl, ?_⟩) (by assumption) ?_
            · intro W hW; go_simp
            try simp only [List.getElem_toArray, List.getElem_cons_zero, List.getElem_cons_succ, Act.put, List.setIfInBounds_toArray, List.set_cons_zero, List.set_cons_succ]
            refine wpAnyH_take (i := 13) (v := .agg (EO.cells (pko8 l0 (G q))).toArray) rfl (by kernel_rfl) (by kernel_rfl) (by kernel_rfl) (fun _ _ _ h => h) (gyields_load TO (by rfl) (.tmp 30) rfl blk (q * 5) rfl (fun U hU => hU.rng (by omega))) (by assumption) ?_
            try simp only [List.getElem_toArray, List.getElem_cons_zero, List.getElem_cons_succ, Act.put, List.setIfInBounds_toArray, List.set_cons_zero, List.set_cons_succ]
            refine wpAnyH_ready (rs := [14]) (by decide +kernel) (by simp) (AllReadyH.cons rfl (fun KQ hK => ?_) AllReadyH.nil)
            go_simp
            refine (CC.out _ hH).mono ?_; rintro e0 W1 ⟨rfl, q1⟩
            have hH1 := hH.below q1
            clear hH
            have hH := hH1
            clear hH1
            refine hK.out _ _ hH (fun _ => ?_)
            clear hK q1
            try simp only [List.setIfInBounds_toArray, List.set_cons_zero, List.set_cons_succ]
            refine wpAnyH_take (i := 15) (v := .bool true) rfl (by kernel_rfl) (by kernel_rfl) (by kernel_rfl) (fun _ _ _ h => h) (.inl ⟨by rfl, ?_⟩) (by assumption) ?_
            · intro W hW; go_simp
            try simp only [List.getElem_toArray, List.getElem_cons_zero, List.getElem_cons_succ, Act.put, List.setIfInBounds_toArray, List.set_cons_zero, List.set_cons_succ]
            refine wpAnyH_take (i := 16) (v := .bool true) rfl (by kernel_rfl) (by kernel_rfl) (by kernel_rfl) (fun _ _ _ h => h) (.inl ⟨by rfl, ?_⟩) (by assumption) ?_
            · intro W hW; go_simp
            try simp only [List.getElem_toArray, List.getElem_cons_zero, List.getElem_cons_succ, Act.put, List.setIfInBounds_toArray, List.set_cons_zero, List.set_cons_succ]
            refine wpAnyH_done (by decide +kernel) ?_ _
            have HR1 := Lib.hid hH
            clear hH
            have hR := HR1.out
            have S := Lib.hid ((hR.drewN 1).swap (i := j) (j := q) (by omega) (by omega))
            go_wp2
            have R0 := Lib.hid (hR.drewN 1)
            have RP := Lib.hid (R0.out.rng (t := j) (by omega))
            have RQ := Lib.hid (R0.out.rng (t := q) (by omega))
            have TP := Lib.hid (R0.out.there (t := j) (by omega) (pko8 l0 (G q)))
            have TQ := Lib.hid ((R0.out.there (t := q) (by omega) (pko8 l0 (G j))))
            refine wp_region_held_drew (S := fun _ => True) (by kernel_rfl) trivial (fun hH => ?_)
            refine wpAnyH_take (i := 0) (v := .slice (some ⟨blk, 0, none⟩) N cap) rfl (by kernel_rfl) (by kernel_rfl) (by kernel_rfl) (fun _ _ _ h => h) (.inl ⟨by rfl, ?_⟩) (by assumption) ?_
            · intro W hW; go_simp
            try simp only [List.getElem_toArray, List.getElem_cons_zero, Act.put, List.setIfInBounds_toArray, List.set_cons_zero, List.set_cons_succ]
            refine wpAnyH_take (i := 1) (v := .int .i64 j) rfl (by kernel_rfl) (by kernel_rfl) (by kernel_rfl) (fun _ _ _ h => h) (.inl ⟨by rfl, ?_⟩) (by assumption) ?_
            · intro W hW; go_simp
            try simp only [List.getElem_toArray, List.getElem_cons_zero, List.getElem_cons_succ, Act.put, List.setIfInBounds_toArray, List.set_cons_zero, List.set_cons_succ]
            refine wpAnyH_take (i := 2) (v := .slice (some ⟨blk, 0, none⟩) N cap) rfl (by kernel_rfl) (by kernel_rfl) (by kernel_rfl) (fun _ _ _ h => h) (.inl ⟨by rfl, ?_⟩) (by assumption) ?_
            · intro W hW; go_simp
            try simp only [List.getElem_toArray, List.getElem_cons_zero, List.getElem_cons_succ, Act.put, List.setIfInBounds_toArray, List.set_cons_zero, List.set_cons_succ]
            refine wpAnyH_take (i := 3) (v := .int .i64 j) rfl (by kernel_rfl) (by kernel_rfl) (by kernel_rfl) (fun _ _ _ h => h) (.inl ⟨by rfl, ?_⟩) (by assumption) ?_
            · intro W hW; go_simp
            try simp only [List.getElem_toArray, List.getElem_cons_zero, List.getElem_cons_succ, Act.put, List.setIfInBounds_toArray, List.set_cons_zero, List.set_cons_succ]
            refine wpAnyH_take (i := 4) (v := .int .i64 q) rfl (by kernel_rfl) (by kernel_rfl) (by kernel_rfl) (fun _ _ _ h => h) (.inl ⟨by rfl, ?_⟩) (by assumption) ?_
            · intro W hW; go_simp
            try simp only [List.getElem_toArray, List.getElem_cons_zero, List.getElem_cons_succ, Act.put, List.setIfInBounds_toArray, List.set_cons_zero, List.set_cons_succ]
            refine wpAnyH_take (i := 5) (v := .slice (some ⟨blk, 0, none⟩) N cap) rfl (by kernel_rfl) (by kernel_rfl) (by kernel_rfl) (fun _ _ _ h => h) (.inl ⟨by rfl, ?_⟩) (by assumption) ?_
            · intro W hW; go_simp
            try simp only [List.getElem_toArray, List.getElem_cons_zero, List.getElem_cons_succ, Act.put, List.setIfInBounds_toArray, List.set_cons_zero, List.set_cons_succ]
            refine wpAnyH_take (i := 6) (v := .int .i64 j) rfl (by kernel_rfl) (by kernel_rfl) (by kernel_rfl) (fun _ _ _ h => h) (.inl ⟨by rfl, ?_⟩) (by assumption) ?_
            · intro W hW; go_simp
            try simp only [List.getElem_toArray, List.getElem_cons_zero, List.getElem_cons_succ, Act.put, List.setIfInBounds_toArray, List.set_cons_zero, List.set_cons_succ]
            refine wpAnyH_take (i := 7) (v := .int .i64 q) rfl (by kernel_rfl) (by kernel_rfl) (by kernel_rfl) (fun _ _ _ h => h) (.inl ⟨by rfl, ?_⟩) (by assumption) ?_
            · intro W hW; go_simp
            try simp only [List.getElem_toArray, List.getElem_cons_zero, List.getElem_cons_succ, Act.put, List.setIfInBounds_toArray, List.set_cons_zero, List.set_cons_succ]
            refine wpAnyH_take (i := 8) (v := .pointer (some ⟨blk, q * 5, none⟩)) rfl (by kernel_rfl) (by kernel_rfl) (by kernel_rfl) (fun _ _ _ h => h) (.inl ⟨by rfl, ?_⟩) (by assumption) ?_
            · intro W hW; go_simp
            try simp only [List.getElem_toArray, List.getElem_cons_zero, List.getElem_cons_succ, Act.put, List.setIfInBounds_toArray, List.set_cons_zero, List.set_cons_succ]
            refine wpAnyH_take (i := 10) (v := .slice (some ⟨blk, 0, none⟩) N cap) rfl (by kernel_rfl) (by kernel_rfl) (by kernel_rfl) (fun _ _ _ h => h) (.inl ⟨by rfl, ?_⟩) (by assumption) ?_
            · intro W hW; go_simp
            try simp only [List.getElem_toArray, List.getElem_cons_zero, List.getElem_cons_succ, Act.put, List.setIfInBounds_toArray, List.set_cons_zero, List.set_cons_succ]
            refine wpAnyH_take (i := 11) (v := .int .i64 j) rfl (by kernel_rfl) (by kernel_rfl) (by kernel_rfl) (fun _ _ _ h => h) (.inl ⟨by rfl, ?_⟩) (by assumption) ?_
            · intro W hW; go_simp
            try simp only [List.getElem_toArray, List.getElem_cons_zero, List.getElem_cons_succ, Act.put, List.setIfInBounds_toArray, List.set_cons_zero, List.set_cons_succ]
            refine wpAnyH_take (i := 12) (v := .pointer (some ⟨blk, j * 5, none⟩)) rfl (by kernel_rfl) (by kernel_rfl) (by kernel_rfl) (fun _ _ _ h => h) (.inl ⟨by rfl, ?_⟩) (by assumption) ?_
            · intro W hW; go_simp
            try simp only [List.getElem_toArray, List.getElem_cons_zero, List.getElem_cons_succ, Act.put, List.setIfInBounds_toArray, List.set_cons_zero, List.set_cons_succ]
            refine wpAnyH_ready (rs := [9, 13]) (by decide +kernel) (by simp) (AllReadyH.cons rfl (fun KQ hK => ?_) (AllReadyH.cons rfl (fun KQ hK => ?_) AllReadyH.nil))
            · rw [if_pos (by rfl)]
              refine wp_load_mid 31 _ rfl blk (q * 5) rfl (EO.cells (pko8 l0 (G q))) _ RQ.out Try.underlying31 rfl (by rw [gsize TO, EO.len]) ?_
              refine hK.out _ _ trivial (fun _ => ?_)
              clear hK
              try simp only [List.getElem_toArray, List.getElem_cons_zero, List.getElem_cons_succ, Act.put, List.setIfInBounds_toArray, List.set_cons_zero, List.set_cons_succ]
              refine wpAnyH_ready (rs := [13]) (by decide +kernel) (by simp) (AllReadyH.cons rfl (fun KQ hK => ?_) AllReadyH.nil)
              rw [if_pos (by rfl)]
              refine wp_load_mid 31 _ rfl blk (j * 5) rfl (EO.cells (pko8 l0 (G j))) _ RP.out Try.underlying31 rfl (by rw [gsize TO, EO.len]) ?_
              refine hK.out _ _ trivial (fun _ => ?_)
              clear hK
              try simp only [List.getElem_toArray, List.getElem_cons_zero, List.getElem_cons_succ, Act.put, List.setIfInBounds_toArray, List.set_cons_zero, List.set_cons_succ]
              refine wpAnyH_take (i := 14) (v := .pointer (some ⟨blk, j * 5, none⟩)) rfl (by kernel_rfl) (by kernel_rfl) (by kernel_rfl) (fun _ _ _ h => h) (.inl ⟨by rfl, ?_⟩) (by assumption) ?_
              · intro W hW; go_simp
              try simp only [List.getElem_toArray, List.getElem_cons_zero, List.getElem_cons_succ, Act.put, List.setIfInBounds_toArray, List.set_cons_zero, List.set_cons_succ]
              refine wpAnyH_ready (rs := [15]) (by decide +kernel) (by simp) (AllReadyH.cons rfl (fun KQ hK => ?_) AllReadyH.nil)
              rw [if_pos (by rfl)]
              refine wp_store_mid 31 _ _ rfl blk (j * 5) (EO.cells (pko8 l0 (G q))).toArray rfl rfl TP.out (by rw [gsize TO, List.size_toArray, EO.len]) (gall_one (E := EO) _) ?_
              refine hK.out _ _ trivial (fun _ => ?_)
              clear hK
              try simp only [List.getElem_toArray, List.getElem_cons_zero, List.getElem_cons_succ, Act.put, List.setIfInBounds_toArray, List.set_cons_zero, List.set_cons_succ]
              refine wpAnyH_take (i := 16) (v := .pointer (some ⟨blk, q * 5, none⟩)) rfl (by kernel_rfl) (by kernel_rfl) (by kernel_rfl) (fun _ _ _ h => h) (.inl ⟨by rfl, ?_⟩) (by assumption) ?_
              · intro W hW; go_simp
              try simp only [List.getElem_toArray, List.getElem_cons_zero, List.getElem_cons_succ, Act.put, List.setIfInBounds_toArray, List.set_cons_zero, List.set_cons_succ]
              refine wpAnyH_ready (rs := [17]) (by decide +kernel) (by simp) (AllReadyH.cons rfl (fun KQ hK => ?_) AllReadyH.nil)
              rw [if_pos (by rfl)]
              refine wp_store_mid 31 _ _ rfl blk (q * 5) (EO.cells (pko8 l0 (G j))).toArray rfl rfl (World.there_setCells TQ.out _ _ _) (by rw [gsize TO, List.size_toArray, EO.len]) (gall_one (E := EO) _) ?_
              refine hK.out _ _ trivial (fun _ => ?_)
              clear hK
              try simp only [List.getElem_toArray, List.getElem_cons_zero, List.getElem_cons_succ, Act.put, List.setIfInBounds_toArray, List.set_cons_zero, List.set_cons_succ]
              refine wpAnyH_done (by decide +kernel) ?_ _
              go_wp2
              have E := Lib.hid (St.sw_down (f := g) (k := q) (m := i) (by omega))
              rw [show q + 1 = j by omega, HG.out] at E
              go_roundw
              case rel => exact ⟨q, by congr 1, by omega, by omega, by rw [← E.out]; exact S.out, fun _ => by rw [← HQ.out]; exact HL.out⟩
              case measure => simp [intOf]; omega
            · rw [if_pos (by rfl)]
              refine wp_load_mid 31 _ rfl blk (j * 5) rfl (EO.cells (pko8 l0 (G j))) _ RP.out Try.underlying31 rfl (by rw [gsize TO, EO.len]) ?_
              refine hK.out _ _ trivial (fun _ => ?_)
              clear hK
              try simp only [List.getElem_toArray, List.getElem_cons_zero, List.getElem_cons_succ, Act.put, List.setIfInBounds_toArray, List.set_cons_zero, List.set_cons_succ]
              refine wpAnyH_ready (rs := [9]) (by decide +kernel) (by simp) (AllReadyH.cons rfl (fun KQ hK => ?_) AllReadyH.nil)
              rw [if_pos (by rfl)]
              refine wp_load_mid 31 _ rfl blk (q * 5) rfl (EO.cells (pko8 l0 (G q))) _ RQ.out Try.underlying31 rfl (by rw [gsize TO, EO.len]) ?_
              refine hK.out _ _ trivial (fun _ => ?_)
              clear hK
              try simp only [List.getElem_toArray, List.getElem_cons_zero, List.getElem_cons_succ, Act.put, List.setIfInBounds_toArray, List.set_cons_zero, List.set_cons_succ]
              refine wpAnyH_take (i := 14) (v := .pointer (some ⟨blk, j * 5, none⟩)) rfl (by kernel_rfl) (by kernel_rfl) (by kernel_rfl) (fun _ _ _ h => h) (.inl ⟨by rfl, ?_⟩) (by assumption) ?_
              · intro W hW; go_simp
              try simp only [List.getElem_toArray, List.getElem_cons_zero, List.getElem_cons_succ, Act.put, List.setIfInBounds_toArray, List.set_cons_zero, List.set_cons_succ]
              refine wpAnyH_ready (rs := [15]) (by decide +kernel) (by simp) (AllReadyH.cons rfl (fun KQ hK => ?_) AllReadyH.nil)
              rw [if_pos (by rfl)]
              refine wp_store_mid 31 _ _ rfl blk (j * 5) (EO.cells (pko8 l0 (G q))).toArray rfl rfl TP.out (by rw [gsize TO, List.size_toArray, EO.len]) (gall_one (E := EO) _) ?_
              refine hK.out _ _ trivial (fun _ => ?_)
              clear hK
              try simp only [List.getElem_toArray, List.getElem_cons_zero, List.getElem_cons_succ, Act.put, List.setIfInBounds_toArray, List.set_cons_zero, List.set_cons_succ]
              refine wpAnyH_take (i := 16) (v := .pointer (some ⟨blk, q * 5, none⟩)) rfl (by kernel_rfl) (by kernel_rfl) (by kernel_rfl) (fun _ _ _ h => h) (.inl ⟨by rfl, ?_⟩) (by assumption) ?_
              · intro W hW; go_simp
              try simp only [List.getElem_toArray, List.getElem_cons_zero, List.getElem_cons_succ, Act.put, List.setIfInBounds_toArray, List.set_cons_zero, List.set_cons_succ]
              refine wpAnyH_ready (rs := [17]) (by decide +kernel) (by simp) (AllReadyH.cons rfl (fun KQ hK => ?_) AllReadyH.nil)
              rw [if_pos (by rfl)]
              refine wp_store_mid 31 _ _ rfl blk (q * 5) (EO.cells (pko8 l0 (G j))).toArray rfl rfl (World.there_setCells TQ.out _ _ _) (by rw [gsize TO, List.size_toArray, EO.len]) (gall_one (E := EO) _) ?_
              refine hK.out _ _ trivial (fun _ => ?_)
              clear hK
              try simp only [List.getElem_toArray, List.getElem_cons_zero, List.getElem_cons_succ, Act.put, List.setIfInBounds_toArray, List.set_cons_zero, List.set_cons_succ]
              refine wpAnyH_done (by decide +kernel) ?_ _
              go_wp2
              have E := Lib.hid (St.sw_down (f := g) (k := q) (m := i) (by omega))
              rw [show q + 1 = j by omega, HG.out] at E
              go_roundw
              case rel => exact ⟨q, by congr 1, by omega, by omega, by rw [← E.out]; exact S.out, fun _ => by rw [← HQ.out]; exact HL.out⟩
              case measure => simp [intOf]; omega
        · have O2 := Lib.hid (OUT.out fun h => absurd h hja)
          have haji : ¬ (a : Int) < (j : Int) := by omega
          go_wp2
          refine wp_region_held_drew (S := fun U => Ono8 w blk cap N l0 G U) (by kernel_rfl) (hR.drewN 1) (fun hH => ?_)
          refine wpAnyH_take (i := 0) (v := .int .i64 j) rfl (by kernel_rfl) (by kernel_rfl) (by kernel_rfl) (fun _ _ _ h => h) (.inl ⟨by rfl, ?_⟩) (by assumption) ?_
          · intro W hW; go_simp
          try simp only [List.getElem_toArray, List.getElem_cons_zero, Act.put, List.setIfInBounds_toArray, List.set_cons_zero, List.set_cons_succ]
          refine wpAnyH_take (i := 1) (v := .int .i64 a) rfl (by kernel_rfl) (by kernel_rfl) (by kernel_rfl) (fun _ _ _ h => h) (.inl ⟨by rfl, ?_⟩) (by assumption) ?_
          · intro W hW; go_simp
          try simp only [List.getElem_toArray, List.getElem_cons_zero, List.getElem_cons_succ, Act.put, List.setIfInBounds_toArray, List.set_cons_zero, List.set_cons_succ]
          refine wpAnyH_take (i := 2) (v := .bool false) rfl (by kernel_rfl) (by kernel_rfl) (by kernel_rfl) (fun _ _ _ h => h) (.inl ⟨by rfl, ?_⟩) (by assumption) ?_
          · intro W hW; go_simp
          try simp only [List.getElem_toArray, List.getElem_cons_zero, List.getElem_cons_succ, Act.put, List.setIfInBounds_toArray, List.set_cons_zero, List.set_cons_succ]
          refine wpAnyH_take (i := 3) (v := .bool false) rfl (by kernel_rfl) (by kernel_rfl) (by kernel_rfl) (fun _ _ _ h => h) (.inl ⟨by rfl, ?_⟩) (by assumption) ?_
          · intro W hW; go_simp
          try simp only [List.getElem_toArray, List.getElem_cons_zero, List.getElem_cons_succ, Act.put, List.setIfInBounds_toArray, List.set_cons_zero, List.set_cons_succ]
          refine wpAnyH_take (i := 4) (v := undef) rfl (by kernel_rfl) (by kernel_rfl) (by kernel_rfl) (fun _ _ _ h => h) (.inr ⟨by rfl, rfl⟩) (by assumption) ?_
          try simp only [List.getElem_toArray, List.getElem_cons_zero, List.getElem_cons_succ, Act.put, List.setIfInBounds_toArray, List.set_cons_zero, List.set_cons_succ]
          refine wpAnyH_take (i := 5) (v := undef) rfl (by kernel_rfl) (by kernel_rfl) (by kernel_rfl) (fun _ _ _ h => h) (.inr ⟨by rfl, rfl⟩) (by assumption) ?_
          try simp only [List.getElem_toArray, List.getElem_cons_zero, List.getElem_cons_succ, Act.put, List.setIfInBounds_toArray, List.set_cons_zero, List.set_cons_succ]
          refine wpAnyH_take (i := 6) (v := undef) rfl (by kernel_rfl) (by kernel_rfl) (by kernel_rfl) (fun _ _ _ h => h) (.inr ⟨by rfl, rfl⟩) (by assumption) ?_
          try simp only [List.getElem_toArray, List.getElem_cons_zero, List.getElem_cons_succ, Act.put, List.setIfInBounds_toArray, List.set_cons_zero, List.set_cons_succ]
          refine wpAnyH_take (i := 7) (v := undef) rfl (by kernel_rfl) (by kernel_rfl) (by kernel_rfl) (fun _ _ _ h => h) (.inr ⟨by rfl, rfl⟩) (by assumption) ?_
          try simp only [List.getElem_toArray, List.getElem_cons_zero, List.getElem_cons_succ, Act.put, List.setIfInBounds_toArray, List.set_cons_zero, List.set_cons_succ]
          refine wpAnyH_take (i := 8) (v := undef) rfl (by kernel_rfl) (by kernel_rfl) (by kernel_rfl) (fun _ _ _ h => h) (.inr ⟨by rfl, rfl⟩) (by assumption) ?_
          try simp only [List.getElem_toArray, List.getElem_cons_zero, List.getElem_cons_succ, Act.put, List.setIfInBounds_toArray, List.set_cons_zero, List.set_cons_succ]
          refine wpAnyH_take (i := 9) (v := undef) rfl (by kernel_rfl) (by kernel_rfl) (by kernel_rfl) (fun _ _ _ h => h) (.inr ⟨by rfl, rfl⟩) (by assumption) ?_
          try simp only [List.getElem_toArray, List.getElem_cons_zero, List.getElem_cons_succ, Act.put, List.setIfInBounds_toArray, List.set_cons_zero, List.set_cons_succ]
          refine wpAnyH_take (i := 10) (v := undef) rfl (by kernel_rfl) (by kernel_rfl) (by kernel_rfl) (fun _ _ _ h => h) (.inr ⟨by rfl, rfl⟩) (by assumption) ?_
          try simp only [List.getElem_toArray, List.getElem_cons_zero, List.getElem_cons_succ, Act.put, List.setIfInBounds_toArray, List.set_cons_zero, List.set_cons_succ]
          refine wpAnyH_take (i := 11) (v := undef) rfl (by kernel_rfl) (by kernel_rfl) (by kernel_rfl) (fun _ _ _ h => h) (.inr ⟨by rfl, rfl⟩) (by assumption) ?_
          try simp only [List.getElem_toArray, List.getElem_cons_zero, List.getElem_cons_succ, Act.put, List.setIfInBounds_toArray, List.set_cons_zero, List.set_cons_succ]
          refine wpAnyH_take (i := 12) (v := undef) rfl (by kernel_rfl) (by kernel_rfl) (by kernel_rfl) (fun _ _ _ h => h) (.inr ⟨by rfl, rfl⟩) (by assumption) ?_
          try simp only [List.getElem_toArray, List.getElem_cons_zero, List.getElem_cons_succ, Act.put, List.setIfInBounds_toArray, List.set_cons_zero, List.set_cons_succ]
          refine wpAnyH_take (i := 13) (v := undef) rfl (by kernel_rfl) (by kernel_rfl) (by kernel_rfl) (fun _ _ _ h => h) (.inr ⟨by rfl, rfl⟩) (by assumption) ?_
          try simp only [List.getElem_toArray, List.getElem_cons_zero, List.getElem_cons_succ, Act.put, List.setIfInBounds_toArray, List.set_cons_zero, List.set_cons_succ]
          refine wpAnyH_take (i := 14) (v := undef) rfl (by kernel_rfl) (by kernel_rfl) (by kernel_rfl) (fun _ _ _ h => h) (.inr ⟨by rfl, rfl⟩) (by assumption) ?_
          try simp only [List.getElem_toArray, List.getElem_cons_zero, List.getElem_cons_succ, Act.put, List.setIfInBounds_toArray, List.set_cons_zero, List.set_cons_succ]
          refine wpAnyH_take (i := 15) (v := undef) rfl (by kernel_rfl) (by kernel_rfl) (by kernel_rfl) (fun _ _ _ h => h) (.inr ⟨by rfl, rfl⟩) (by assumption) ?_
          try simp only [List.getElem_toArray, List.getElem_cons_zero, List.getElem_cons_succ, Act.put, List.setIfInBounds_toArray, List.set_cons_zero, List.set_cons_succ]
          refine wpAnyH_take (i := 16) (v := .bool false) rfl (by kernel_rfl) (by kernel_rfl) (by kernel_rfl) (fun _ _ _ h => h) (.inl ⟨by rfl, ?_⟩) (by assumption) ?_
          · intro W hW; go_simp
          try simp only [List.getElem_toArray, List.getElem_cons_zero, List.getElem_cons_succ, Act.put, List.setIfInBounds_toArray, List.set_cons_zero, List.set_cons_succ]
          refine wpAnyH_done (by decide +kernel) ?_ _
          have HR1 := Lib.hid hH
          clear hH
          go_wp2
          go_roundw
          case rel => exact O2.out _ HR1.out
          case measure => simp [intOf]; omega
    · go_wp2
      go_end0
      refine ⟨rfl, g, hR, ?_⟩
      rcases Nat.eq_or_lt_of_le (show b ≤ i by omega) with rfl | h
      · exact HM.out
      · obtain ⟨e, k⟩ := HE.out h
        rw [e]; exact St.Mg.self (St.So.one f (by omega))
end Go.Proofs.Ytcjianjnedbjkaa
