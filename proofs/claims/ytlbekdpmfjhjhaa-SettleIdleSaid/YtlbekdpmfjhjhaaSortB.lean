/- The contract of the insertion sort inside slices.SortStableFunc, over a row of places, with a comparison that tells the order of their keys: it puts a part of the row in order. Conditions: the places rise in that part; the part lies within the row. -/
import Derived.Test.YtlbekdpmfjhjhaaSortA
namespace Go.Proofs.Ytlbekdpmfjhjhaa
open Go.RowKit Go.Sort

/-- What the comparison tells of two places: the one of the greater key comes first. -/
def cm (key : Int → Int) (x y : Int) : Int := if key y < key x then -1 else if key x < key y then 1 else 0
theorem cm_lt {key : Int → Int} {x y : Int} : cm key x y < 0 ↔ key y < key x := by unfold cm; split <;> (try split) <;> omega
theorem cm_bd (key : Int → Int) (x y : Int) : -1 ≤ cm key x y ∧ cm key x y ≤ 1 := by unfold cm; split <;> (try split) <;> omega
/-- The comparison reads only, and tells the keys' order, wherever the row is. -/
def Cp (w : World) (blk off N : Nat) (key : Int → Int) (K : Nat) (q : Addr) : Prop := ∀ f W, On w blk off N f W → ∀ x y : Int, 0 ≤ x → x < K → 0 ≤ y → y < K →
  Calls Try.prog 42 #[.int .i64 x, .int .i64 y, .pointer (some q)] W fun e w' => e = .returned (.int .i64 (cm key x y)) ∧ ∃ m, w' = W.drewN m
/-- All places of the row are places of keys. -/
def Al (N K : Nat) (f : Nat → Int) : Prop := ∀ t, t < N → 0 ≤ f t ∧ f t < K
theorem Al.mg {N K : Nat} {key : Int → Int} {f g : Nat → Int} {a b : Nat} (h : Al N K f) (M : St.Mg key f g a b) (hb : b ≤ N) : Al N K g := fun t ht => by
  by_cases c : a ≤ t ∧ t < b
  · obtain ⟨k, k1, k2, k3⟩ := (M.2.1 (g t)).1 ⟨t, c.1, c.2, rfl⟩
    rw [← k3]; exact h k (by omega)
  · rw [M.1 t (by omega)]; exact h t ht
theorem Al.rot {N K : Nat} {f : Nat → Int} {a m b : Nat} (h : Al N K f) (h1 : a ≤ m) (h2 : m ≤ b) (hb : b ≤ N) : Al N K (St.rot a m b f) := fun t ht => by
  unfold St.rot
  split
  · split
    · exact h _ (by omega)
    · exact h _ (by omega)
  · exact h t ht
theorem cp_call {w : World} {blk off N K : Nat} {key : Int → Int} {q : Addr} (C : Cp w blk off N key K q) {f : Nat → Int} {W : World} (hO : On w blk off N f W) (hA : Al N K f) (n : Nat) {i j : Nat} (hi : i < N) (hj : j < N) {c : Int} (hc : cm key (f i) (f j) = c) :
    Calls Try.prog 42 #[.int .i64 (f i), .int .i64 (f j), .pointer (some q)] (W.drewN n) fun e w' => e = .returned (.int .i64 c) ∧ ∃ m, w' = W.drewN m := by
  refine Calls.quiet_of ?_
  rw [← hc]
  exact C f _ (hO.drewN n) _ _ (hA i hi).1 (hA i hi).2 (hA j hj).1 (hA j hj).2

theorem mg_step {key : Int → Int} {f g h : Nat → Int} {a i : Nat} (M : St.Mg key f g a i) (L : St.Mg key g h a (i + 1)) (hi : a ≤ i) : St.Mg key f h a (i + 1) := by
  refine ⟨fun k hk => by rw [L.1 k hk, M.1 k (by omega)], fun v => ?_, L.2.2⟩
  rw [L.2.1 v, St.Im.split hi (by omega), St.Im.split (f := f) (m := i) hi (by omega), M.2.1 v, St.Im.like (f := f) fun k k1 _ => M.1 k (.inr k1)]

set_option maxHeartbeats 1000000 in
theorem insert_any (w : World) (blk off N cap K : Nat) (hB : Ba w blk off N) (hN : N < 4611686018427387904) (key : Int → Int) (q : Addr) (C : Cp w blk off N key K q) (a b : Nat) (f : Nat → Int) (W : World) (hO : On w blk off N f W)
    (hA : Al N K f) (h1 : a ≤ b) (h2 : b ≤ N) (hinc : ∀ s t, a ≤ s → s < t → t < b → f s < f t) :
    Calls Try.prog 49 #[.slice (some ⟨blk, off, none⟩) N cap, .int .i64 a, .int .i64 b, .func (.func 42) #[] #[.pointer (some q)]] W fun e w' => e = .returned (.tuple #[]) ∧ ∃ g, On w blk off N g w' ∧ St.Mg key f g a b := by
  have HI := Lib.hid hinc
  clear hinc
  go_enter Try.func49, Try.ntmps49
  go_wp2
  go_loopw [8] (fun vi wr => ∃ (i : Nat) (g : Nat → Int), vi = .int .i64 i ∧ a < i ∧ i ≤ b + 1 ∧ On w blk off N g wr ∧ St.Mg key f g a i ∧ (b < i → g = f ∧ b ≤ a)) (fun vi _ => b + 1 - (intOf vi).toNat)
  case atStart => exact ⟨a + 1, f, by go_num, by omega, by omega, hO, St.Mg.self (St.So.one f (by omega)), fun _ => ⟨rfl, by omega⟩⟩
  case round =>
    obtain ⟨i, g, rfl, hai, hib, hR, hM, hE⟩ := hrel
    have HM := Lib.hid hM
    have HE := Lib.hid hE
    clear hM hE hO
    by_cases hlt : i < b
    · have hAg := Lib.hid (hA.mg HM.out (by omega))
      have hgi := Lib.hid (HM.out.1 i (.inr (Nat.le_refl _)))
      have hless : Hid (∀ t, a ≤ t → t < i → g t < g i) := Lib.hid fun t t1 t2 => by
        obtain ⟨k, k1, k2, k3⟩ := (HM.out.2.1 (g t)).1 ⟨t, t1, t2, rfl⟩
        rw [hgi.out, ← k3]
        exact HI.out k i k1 k2 hlt
      go_wp2
      go_loopw [9] (fun vj wr2 => ∃ j : Nat, vj = .int .i64 j ∧ a ≤ j ∧ j ≤ i ∧ On w blk off N (St.rot j i (i + 1) g) wr2 ∧ (j < i → St.lt key (g i) (g j))) (fun vj _ => (intOf vj).toNat)
      case atStart => exact ⟨i, rfl, by omega, Nat.le_refl _, by rw [St.rot_none1 _ _ _ (by omega)]; exact hR, fun h => absurd h (Nat.lt_irrefl _)⟩
      case round =>
        obtain ⟨j, rfl, haj, hji, hR2, hJ⟩ := hrel
        have hAr := hAg.out.rot (a := j) (m := i) (b := i + 1) hji (by omega) (by omega)
        obtain ⟨G, hG⟩ : ∃ G, St.rot j i (i + 1) g = G := ⟨_, rfl⟩
        have HJ := Lib.hid hJ
        have HG := Lib.hid hG
        rw [hG] at hR2 hAr
        clear hR hJ
        have hc := hR2.cell hB
        have hf := hR2.froz hB
        have OUT : Hid ((a < j → St.lt key (g (j - 1)) (g i)) → ∀ m, ∃ (i' : Nat) (g' : Nat → Int), Value.int .i64 ((i : Int) + 1) = .int .i64 (i' : Nat) ∧ a < i' ∧ i' ≤ b + 1 ∧ On w blk off N g' (wr.drewN m) ∧ St.Mg key f g' a i' ∧ (b < i' → g' = f ∧ b ≤ a)) :=
          Lib.hid fun hl m => ⟨i + 1, G, by go_num, by omega, by omega, hR2.drewN m, by
            rw [← HG.out]
            exact mg_step HM.out (St.last_in haj hji hl HJ.out HM.out.2.2) (by omega), fun h => by omega⟩
        clear hG
        by_cases hja : a < j
        · have e1 := Lib.hid (show G j = g i by rw [← HG.out, St.rot_left (Nat.le_refl _) (by omega) hji (by omega)]; congr 1; omega)
          have e2 := Lib.hid (show G (j - 1) = g (j - 1) by rw [← HG.out]; exact St.rot_out (.inl (by omega)))
          obtain ⟨c, hcm⟩ : ∃ c, cm key (G j) (G (j - 1)) = c := ⟨_, rfl⟩
          have hcb := cm_bd key (G j) (G (j - 1))
          have CC := Lib.hid fun n => cp_call C hR2 hAr n (i := j) (j := j - 1) (by omega) (by omega) hcm
          have LT := Lib.hid (cm_lt (key := key) (x := G j) (y := G (j - 1)))
          rw [hcm] at hcb LT
          clear hcm
          cases hk : decide (c < 0)
          · have hl : a < j → St.lt key (g (j - 1)) (g i) := fun _ => by
              have h3 := hless.out (j - 1) (by omega) (by omega)
              refine St.lt_no h3 fun h4 => ?_
              rw [e1.out, e2.out] at LT
              have := LT.out.2 h4
              simp at hk
              omega
            have O2 := Lib.hid (OUT.out hl)
            clear OUT hl
            go_wp2
            go_quiet (first | (go_at_call 42; exact CC.out _))
            go_wp2
            go_roundw
            case rel => exact O2.out nq
            case measure => simp [intOf]; omega
          · have hl : St.lt key (g i) (g (j - 1)) := by
              rw [e1.out, e2.out] at LT
              exact St.lt_yes (LT.out.1 (of_decide_eq_true hk))
            have S := Lib.hid fun m => (hR2.drewN m).swap (i := j) (j := j - 1) (by omega) (by omega)
            have HL := Lib.hid hl
            clear OUT hl
            go_wp2
            go_quiet (first | (go_at_call 42; exact CC.out _))
            go_wp2
            go_region
            all_goals go_wp2
            have E := Lib.hid (St.sw_down (f := g) (k := j - 1) (m := i) (by omega))
            rw [show j - 1 + 1 = j by omega, HG.out] at E
            go_roundw
            case rel => exact ⟨j - 1, by congr 1; omega, by omega, by omega, by rw [← E.out]; exact S.out _, fun _ => HL.out⟩
            case measure => simp [intOf]; omega
        · have O2 := Lib.hid (OUT.out fun h => absurd h hja)
          go_wp2
          go_quiet (first | (go_at_call 42; fail))
          go_wp2
          go_roundw
          case rel => exact O2.out nq
          case measure => simp [intOf]; omega
    · go_wp2
      go_end0
      refine ⟨rfl, g, hR, ?_⟩
      rcases Nat.eq_or_lt_of_le (show b ≤ i by omega) with rfl | h
      · exact HM.out
      · obtain ⟨e, k⟩ := HE.out h
        rw [e]; exact St.Mg.self (St.So.one f (by omega))
end Go.Proofs.Ytlbekdpmfjhjhaa
