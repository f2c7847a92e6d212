/- slices.SortStableFunc at a struct (by genSort.py): the row of structs as places of a list; exchanges and rotations. Conditions: the ranges lie within the row and apart. -/
import Derived.Test.YtcjianjnedbjkaaUb
import Derived.Test.YtcjianjnedbjkaaSm
import Derived.Test.YtcjianjnedbjkaaSortMath
import Derived.BigGuard
import Derived.BigCall
import Derived.CellFam
import Derived.Deep.Draws
import Derived.Deep.QuietTactic
import Derived.Deep.RegionHeld
import Derived.BigQuiet
import Derived.BigRegion
namespace Go.Proofs.Ytcjianjnedbjkaa
open Go.RowKit Go.Shelf
set_option linter.unusedVariables false
set_option linter.unusedSimpArgs false

/-- The struct at a place of the list; a row of places. -/
def pko8 (l0 : List Or) (v : Int) : Or := l0.getD v.toNat zeroOr
def rwo8 (l0 : List Or) (f : Nat → Int) (N : Nat) : List Or := (List.range N).map fun t => pko8 l0 (f t)
theorem rw_leno8 (l0 : List Or) (f : Nat → Int) (N : Nat) : (rwo8 l0 f N).length = N := by simp [rwo8]
theorem rw_ato8 (l0 : List Or) (f : Nat → Int) {N t : Nat} (h : t < N) : (rwo8 l0 f N)[t]? = some (pko8 l0 (f t)) := by simp [rwo8, h]
theorem rw_swo8 (l0 : List Or) (f : Nat → Int) {N i j : Nat} (hi : i < N) (hj : j < N) : ((rwo8 l0 f N).set i (pko8 l0 (f j))).set j (pko8 l0 (f i)) = rwo8 l0 (St.sw i j f) N := by
  refine List.ext_getElem? fun t => ?_
  rcases Nat.lt_or_ge t N with h | h
  · rw [rw_ato8 l0 _ h, List.getElem?_set, List.getElem?_set]
    unfold St.sw
    by_cases c1 : t = j
    · subst c1
      rw [if_pos rfl, if_pos (by rw [List.length_set, rw_leno8]; exact h), if_pos rfl]
    · rw [if_neg (Ne.symm c1), if_neg c1]
      by_cases c2 : t = i
      · subst c2
        rw [if_pos rfl, if_pos (by rw [rw_leno8]; exact h), if_pos rfl]
      · rw [if_neg (Ne.symm c2), if_neg c2, rw_ato8 l0 _ h]
  · rw [List.getElem?_eq_none (by rw [List.length_set, List.length_set, rw_leno8]; exact h), List.getElem?_eq_none (by rw [rw_leno8]; exact h)]
/-- The row at blk holds the places f; all else is as in w, but for what is new. -/
structure Ono8 (w : World) (blk cap N : Nat) (l0 : List Or) (f : Nat → Int) (W : World) : Prop where
  own : EO.Own 31 W 0 (.slice (some ⟨blk, 0, none⟩) N cap) (rwo8 l0 f N)
  fr : Fr (fun k => k = blk) w W
section
variable {w W W' : World} {blk cap N : Nat} {l0 : List Or} {f : Nat → Int}
theorem Ono8.rng (h : Ono8 w blk cap N l0 f W) {t : Nat} (ht : t < N) : W.rangeAt blk (t * 5) (EO.cells (pko8 l0 (f t))) := gown_rng h.own (rw_ato8 l0 f ht)
theorem Ono8.there (h : Ono8 w blk cap N l0 f W) {t : Nat} (ht : t < N) (y : Or) : W.there blk (t * 5) (EO.cells y).toArray.size := gown_there h.own (rw_ato8 l0 f ht) y
theorem Ono8.drewN (h : Ono8 w blk cap N l0 f W) (n : Nat) : Ono8 w blk cap N l0 f (W.drewN n) := ⟨h.own, h.fr.drewN n⟩
theorem Ono8.blt (h : Ono8 w blk cap N l0 f W) (hb : blk < w.heap.size) : blk < W.heap.size := Nat.lt_of_lt_of_le hb h.fr.size
theorem Ono8.below (h : Ono8 w blk cap N l0 f W) (q : Below W.heap.size W W') : Ono8 w blk cap N l0 f W' := ⟨gown_below h.own q, h.fr.same (Fr.below q)⟩
theorem Ono8.le (h : Ono8 w blk cap N l0 f W) : N ≤ cap ∧ cap ≤ 9223372036854775807 := gown_cap h.own
theorem Ono8.swap (h : Ono8 w blk cap N l0 f W) {i j : Nat} (hi : i < N) (hj : j < N) :
    Ono8 w blk cap N l0 (St.sw i j f) ((W.setCells blk (i * 5) (EO.cells (pko8 l0 (f j)))).setCells blk (j * 5) (EO.cells (pko8 l0 (f i)))) := by
  have h1 := gown_set h.own (k := i) (by rw [rw_leno8]; exact hi) (pko8 l0 (f j))
  have h2 := gown_set h1 (k := j) (by rw [List.length_set, rw_leno8]; exact hj) (pko8 l0 (f i))
  rw [rw_swo8 l0 f hi hj] at h2
  exact ⟨h2, (h.fr.same (fr_cells (S := fun k => k = blk) rfl _ _ _)).same (fr_cells (S := fun k => k = blk) rfl _ _ _)⟩
end

set_option maxRecDepth 100000 in
set_option maxHeartbeats 2000000 in
theorem swap_o8 (w : World) (blk N cap : Nat) (l0 : List Or) (hN : N < 4611686018427387904) (cv : Value) (a b n : Nat) (f : Nat → Int) (W : World) (hO : Ono8 w blk cap N l0 f W) (h1 : a + n ≤ b) (h2 : b + n ≤ N) :
    Calls Try.prog 31 #[.slice (some ⟨blk, 0, none⟩) N cap, .int .i64 a, .int .i64 b, .int .i64 n, cv] W fun e w' => e = .returned (.tuple #[]) ∧ Ono8 w blk cap N l0 (St.swr a b n f) w' := by
  go_enter Try.func31, Try.ntmps31
  go_wp2
  go_loopw [10] (fun vi wr => ∃ i : Nat, vi = .int .i64 i ∧ i ≤ n ∧ Ono8 w blk cap N l0 (St.swr a b i f) wr) (fun vi _ => n - (intOf vi).toNat)
  case atStart => exact ⟨0, rfl, Nat.zero_le _, by rw [St.swr_none]; exact hO⟩
  case round =>
    obtain ⟨i, rfl, hi, hR⟩ := hrel
    have HO := Lib.hid hO
    clear hO
    by_cases hlt : i < n
    · obtain ⟨G, hG⟩ : ∃ G, St.swr a b i f = G := ⟨_, rfl⟩
      rw [hG] at hR
      have HG := Lib.hid hG
      clear hG
      have S := Lib.hid ((hR.drewN 1).swap (i := a + i) (j := b + i) (by omega) (by omega))
      obtain ⟨p, hp⟩ : ∃ p : Nat, a + i = p := ⟨_, rfl⟩
      obtain ⟨q, hq⟩ : ∃ q : Nat, b + i = q := ⟨_, rfl⟩
      rw [hp, hq] at S
      have ep : (a : Int) + (i : Int) = (p : Int) := by omega
      have eq : (b : Int) + (i : Int) = (q : Int) := by omega
      have p1 : p < N := by omega
      have q1 : q < N := by omega
      have wp : IntKind.i64.wrap (p : Int) = (p : Int) := by rw [IntKind.wrap_i64]; omega
      have wq : IntKind.i64.wrap (q : Int) = (q : Int) := by rw [IntKind.wrap_i64]; omega
      have HR := Lib.hid hR
      go_wp2
      have R0 := Lib.hid (hR.drewN 1)
      have RP := Lib.hid (R0.out.rng (t := p) (by omega))
      have RQ := Lib.hid (R0.out.rng (t := q) (by omega))
      have TP := Lib.hid (R0.out.there (t := p) (by omega) (pko8 l0 (G q)))
      have TQ := Lib.hid ((R0.out.there (t := q) (by omega) (pko8 l0 (G p))))
      refine wp_region_held_drew (S := fun _ => True) (by kernel_rfl) trivial (fun hH => ?_)
      refine wpAnyH_take (i := 0) (v := .slice (some ⟨blk, 0, none⟩) N cap) rfl (by kernel_rfl) (by kernel_rfl) (by kernel_rfl) (fun _ _ _ h => h) (.inl ⟨by rfl, ?_⟩) (by assumption) ?_
      · intro W hW; go_simp
      try simp only [List.getElem_toArray, List.getElem_cons_zero, Act.put, List.setIfInBounds_toArray, List.set_cons_zero, List.set_cons_succ]
      refine wpAnyH_take (i := 1) (v := .int .i64 a) rfl (by kernel_rfl) (by kernel_rfl) (by kernel_rfl) (fun _ _ _ h => h) (.inl ⟨by rfl, ?_⟩) (by assumption) ?_
      · intro W hW; go_simp
      try simp only [List.getElem_toArray, List.getElem_cons_zero, List.getElem_cons_succ, Act.put, List.setIfInBounds_toArray, List.set_cons_zero, List.set_cons_succ]
      refine wpAnyH_take (i := 2) (v := .int .i64 i) rfl (by kernel_rfl) (by kernel_rfl) (by kernel_rfl) (fun _ _ _ h => h) (.inl ⟨by rfl, ?_⟩) (by assumption) ?_
      · intro W hW; go_simp
      try simp only [List.getElem_toArray, List.getElem_cons_zero, List.getElem_cons_succ, Act.put, List.setIfInBounds_toArray, List.set_cons_zero, List.set_cons_succ]
      refine wpAnyH_take (i := 3) (v := .int .i64 p) rfl (by kernel_rfl) (by kernel_rfl) (by kernel_rfl) (fun _ _ _ h => h) (.inl ⟨by rfl, ?_⟩) (by assumption) ?_
      · intro W hW; go_simp
      try simp only [List.getElem_toArray, List.getElem_cons_zero, List.getElem_cons_succ, Act.put, List.setIfInBounds_toArray, List.set_cons_zero, List.set_cons_succ]
      refine wpAnyH_take (i := 4) (v := .slice (some ⟨blk, 0, none⟩) N cap) rfl (by kernel_rfl) (by kernel_rfl) (by kernel_rfl) (fun _ _ _ h => h) (.inl ⟨by rfl, ?_⟩) (by assumption) ?_
      · intro W hW; go_simp
      try simp only [List.getElem_toArray, List.getElem_cons_zero, List.getElem_cons_succ, Act.put, List.setIfInBounds_toArray, List.set_cons_zero, List.set_cons_succ]
      refine wpAnyH_take (i := 5) (v := .int .i64 b) rfl (by kernel_rfl) (by kernel_rfl) (by kernel_rfl) (fun _ _ _ h => h) (.inl ⟨by rfl, ?_⟩) (by assumption) ?_
      · intro W hW; go_simp
      try simp only [List.getElem_toArray, List.getElem_cons_zero, List.getElem_cons_succ, Act.put, List.setIfInBounds_toArray, List.set_cons_zero, List.set_cons_succ]
      refine wpAnyH_take (i := 6) (v := .int .i64 i) rfl (by kernel_rfl) (by kernel_rfl) (by kernel_rfl) (fun _ _ _ h => h) (.inl ⟨by rfl, ?_⟩) (by assumption) ?_
      · intro W hW; go_simp
      try simp only [List.getElem_toArray, List.getElem_cons_zero, List.getElem_cons_succ, Act.put, List.setIfInBounds_toArray, List.set_cons_zero, List.set_cons_succ]
      refine wpAnyH_take (i := 7) (v := .int .i64 q) rfl (by kernel_rfl) (by kernel_rfl) (by kernel_rfl) (fun _ _ _ h => h) (.inl ⟨by rfl, ?_⟩) (by assumption) ?_
      · intro W hW; go_simp
      try simp only [List.getElem_toArray, List.getElem_cons_zero, List.getElem_cons_succ, Act.put, List.setIfInBounds_toArray, List.set_cons_zero, List.set_cons_succ]
      refine wpAnyH_take (i := 8) (v := .slice (some ⟨blk, 0, none⟩) N cap) rfl (by kernel_rfl) (by kernel_rfl) (by kernel_rfl) (fun _ _ _ h => h) (.inl ⟨by rfl, ?_⟩) (by assumption) ?_
      · intro W hW; go_simp
      try simp only [List.getElem_toArray, List.getElem_cons_zero, List.getElem_cons_succ, Act.put, List.setIfInBounds_toArray, List.set_cons_zero, List.set_cons_succ]
      refine wpAnyH_take (i := 9) (v := .int .i64 b) rfl (by kernel_rfl) (by kernel_rfl) (by kernel_rfl) (fun _ _ _ h => h) (.inl ⟨by rfl, ?_⟩) (by assumption) ?_
      · intro W hW; go_simp
      try simp only [List.getElem_toArray, List.getElem_cons_zero, List.getElem_cons_succ, Act.put, List.setIfInBounds_toArray, List.set_cons_zero, List.set_cons_succ]
      refine wpAnyH_take (i := 10) (v := .int .i64 i) rfl (by kernel_rfl) (by kernel_rfl) (by kernel_rfl) (fun _ _ _ h => h) (.inl ⟨by rfl, ?_⟩) (by assumption) ?_
      · intro W hW; go_simp
      try simp only [List.getElem_toArray, List.getElem_cons_zero, List.getElem_cons_succ, Act.put, List.setIfInBounds_toArray, List.set_cons_zero, List.set_cons_succ]
      refine wpAnyH_take (i := 11) (v := .int .i64 q) rfl (by kernel_rfl) (by kernel_rfl) (by kernel_rfl) (fun _ _ _ h => h) (.inl ⟨by rfl, ?_⟩) (by assumption) ?_
      · intro W hW; go_simp
      try simp only [List.getElem_toArray, List.getElem_cons_zero, List.getElem_cons_succ, Act.put, List.setIfInBounds_toArray, List.set_cons_zero, List.set_cons_succ]
      refine wpAnyH_take (i := 12) (v := .pointer (some ⟨blk, q * 5, none⟩)) rfl (by kernel_rfl) (by kernel_rfl) (by kernel_rfl) (fun _ _ _ h => h) (.inl ⟨by rfl, ?_⟩) (by assumption) ?_
      · intro W hW; go_simp
      try simp only [List.getElem_toArray, List.getElem_cons_zero, List.getElem_cons_succ, Act.put, List.setIfInBounds_toArray, List.set_cons_zero, List.set_cons_succ]
      refine wpAnyH_take (i := 14) (v := .slice (some ⟨blk, 0, none⟩) N cap) rfl (by kernel_rfl) (by kernel_rfl) (by kernel_rfl) (fun _ _ _ h => h) (.inl ⟨by rfl, ?_⟩) (by assumption) ?_
      · intro W hW; go_simp
      try simp only [List.getElem_toArray, List.getElem_cons_zero, List.getElem_cons_succ, Act.put, List.setIfInBounds_toArray, List.set_cons_zero, List.set_cons_succ]
      refine wpAnyH_take (i := 15) (v := .int .i64 a) rfl (by kernel_rfl) (by kernel_rfl) (by kernel_rfl) (fun _ _ _ h => h) (.inl ⟨by rfl, ?_⟩) (by assumption) ?_
      · intro W hW; go_simp
      try simp only [List.getElem_toArray, List.getElem_cons_zero, List.getElem_cons_succ, Act.put, List.setIfInBounds_toArray, List.set_cons_zero, List.set_cons_succ]
      refine wpAnyH_take (i := 16) (v := .int .i64 i) rfl (by kernel_rfl) (by kernel_rfl) (by kernel_rfl) (fun _ _ _ h => h) (.inl ⟨by rfl, ?_⟩) (by assumption) ?_
      · intro W hW; go_simp
      try simp only [List.getElem_toArray, List.getElem_cons_zero, List.getElem_cons_succ, Act.put, List.setIfInBounds_toArray, List.set_cons_zero, List.set_cons_succ]
      refine wpAnyH_take (i := 17) (v := .int .i64 p) rfl (by kernel_rfl) (by kernel_rfl) (by kernel_rfl) (fun _ _ _ h => h) (.inl ⟨by rfl, ?_⟩) (by assumption) ?_
      · intro W hW; go_simp
      try simp only [List.getElem_toArray, List.getElem_cons_zero, List.getElem_cons_succ, Act.put, List.setIfInBounds_toArray, List.set_cons_zero, List.set_cons_succ]
      refine wpAnyH_take (i := 18) (v := .pointer (some ⟨blk, p * 5, none⟩)) rfl (by kernel_rfl) (by kernel_rfl) (by kernel_rfl) (fun _ _ _ h => h) (.inl ⟨by rfl, ?_⟩) (by assumption) ?_
      · intro W hW; go_simp
      try simp only [List.getElem_toArray, List.getElem_cons_zero, List.getElem_cons_succ, Act.put, List.setIfInBounds_toArray, List.set_cons_zero, List.set_cons_succ]
      refine wpAnyH_ready (rs := [13, 19]) (by decide +kernel) (by simp) (AllReadyH.cons rfl (fun KQ hK => ?_) (AllReadyH.cons rfl (fun KQ hK => ?_) AllReadyH.nil))
      · rw [if_pos (by rfl)]
        refine wp_load_mid 31 _ rfl blk (q * 5) rfl (EO.cells (pko8 l0 (G q))) _ RQ.out Try.underlying31 rfl (by rw [gsize TO, EO.len]) ?_
        refine hK.out _ _ trivial (fun _ => ?_)
        clear hK
        try simp only [List.getElem_toArray, List.getElem_cons_zero, List.getElem_cons_succ, Act.put, List.setIfInBounds_toArray, List.set_cons_zero, List.set_cons_succ]
        refine wpAnyH_ready (rs := [19]) (by decide +kernel) (by simp) (AllReadyH.cons rfl (fun KQ hK => ?_) AllReadyH.nil)
        rw [if_pos (by rfl)]
        refine wp_load_mid 31 _ rfl blk (p * 5) rfl (EO.cells (pko8 l0 (G p))) _ RP.out Try.underlying31 rfl (by rw [gsize TO, EO.len]) ?_
        refine hK.out _ _ trivial (fun _ => ?_)
        clear hK
        try simp only [List.getElem_toArray, List.getElem_cons_zero, List.getElem_cons_succ, Act.put, List.setIfInBounds_toArray, List.set_cons_zero, List.set_cons_succ]
        refine wpAnyH_take (i := 20) (v := .pointer (some ⟨blk, p * 5, none⟩)) rfl (by kernel_rfl) (by kernel_rfl) (by kernel_rfl) (fun _ _ _ h => h) (.inl ⟨by rfl, ?_⟩) (by assumption) ?_
        · intro W hW; go_simp
        try simp only [List.getElem_toArray, List.getElem_cons_zero, List.getElem_cons_succ, Act.put, List.setIfInBounds_toArray, List.set_cons_zero, List.set_cons_succ]
        refine wpAnyH_ready (rs := [21]) (by decide +kernel) (by simp) (AllReadyH.cons rfl (fun KQ hK => ?_) AllReadyH.nil)
        rw [if_pos (by rfl)]
        refine wp_store_mid 31 _ _ rfl blk (p * 5) (EO.cells (pko8 l0 (G q))).toArray rfl rfl TP.out (by rw [gsize TO, List.size_toArray, EO.len]) (gall_one (E := EO) _) ?_
        refine hK.out _ _ trivial (fun _ => ?_)
        clear hK
        try simp only [List.getElem_toArray, List.getElem_cons_zero, List.getElem_cons_succ, Act.put, List.setIfInBounds_toArray, List.set_cons_zero, List.set_cons_succ]
        refine wpAnyH_take (i := 22) (v := .pointer (some ⟨blk, q * 5, none⟩)) rfl (by kernel_rfl) (by kernel_rfl) (by kernel_rfl) (fun _ _ _ h => h) (.inl ⟨by rfl, ?_⟩) (by assumption) ?_
        · intro W hW; go_simp
        try simp only [List.getElem_toArray, List.getElem_cons_zero, List.getElem_cons_succ, Act.put, List.setIfInBounds_toArray, List.set_cons_zero, List.set_cons_succ]
        refine wpAnyH_ready (rs := [23]) (by decide +kernel) (by simp) (AllReadyH.cons rfl (fun KQ hK => ?_) AllReadyH.nil)
        rw [if_pos (by rfl)]
        refine wp_store_mid 31 _ _ rfl blk (q * 5) (EO.cells (pko8 l0 (G p))).toArray rfl rfl (World.there_setCells TQ.out _ _ _) (by rw [gsize TO, List.size_toArray, EO.len]) (gall_one (E := EO) _) ?_
        refine hK.out _ _ trivial (fun _ => ?_)
        clear hK
        try simp only [List.getElem_toArray, List.getElem_cons_zero, List.getElem_cons_succ, Act.put, List.setIfInBounds_toArray, List.set_cons_zero, List.set_cons_succ]
        refine wpAnyH_done (by decide +kernel) ?_ _
        go_wp2
        go_roundw
        case rel => exact ⟨i + 1, by go_num, by omega, by rw [← St.sw_range (by omega), HG.out, hp, hq]; exact S.out⟩
        case measure => simp [intOf]; omega
      · rw [if_pos (by rfl)]
        refine wp_load_mid 31 _ rfl blk (p * 5) rfl (EO.cells (pko8 l0 (G p))) _ RP.out Try.underlying31 rfl (by rw [gsize TO, EO.len]) ?_
        refine hK.out _ _ trivial (fun _ => ?_)
        clear hK
        try simp only [List.getElem_toArray, List.getElem_cons_zero, List.getElem_cons_succ, Act.put, List.setIfInBounds_toArray, List.set_cons_zero, List.set_cons_succ]
        refine wpAnyH_ready (rs := [13]) (by decide +kernel) (by simp) (AllReadyH.cons rfl (fun KQ hK => ?_) AllReadyH.nil)
        rw [if_pos (by rfl)]
        refine wp_load_mid 31 _ rfl blk (q * 5) rfl (EO.cells (pko8 l0 (G q))) _ RQ.out Try.underlying31 rfl (by rw [gsize TO, EO.len]) ?_
        refine hK.out _ _ trivial (fun _ => ?_)
        clear hK
        try simp only [List.getElem_toArray, List.getElem_cons_zero, List.getElem_cons_succ, Act.put, List.setIfInBounds_toArray, List.set_cons_zero, List.set_cons_succ]
        refine wpAnyH_take (i := 20) (v := .pointer (some ⟨blk, p * 5, none⟩)) rfl (by kernel_rfl) (by kernel_rfl) (by kernel_rfl) (fun _ _ _ h => h) (.inl ⟨by rfl, ?_⟩) (by assumption) ?_
        · intro W hW; go_simp
        try simp only [List.getElem_toArray, List.getElem_cons_zero, List.getElem_cons_succ, Act.put, List.setIfInBounds_toArray, List.set_cons_zero, List.set_cons_succ]
        refine wpAnyH_ready (rs := [21]) (by decide +kernel) (by simp) (AllReadyH.cons rfl (fun KQ hK => ?_) AllReadyH.nil)
        rw [if_pos (by rfl)]
        refine wp_store_mid 31 _ _ rfl blk (p * 5) (EO.cells (pko8 l0 (G q))).toArray rfl rfl TP.out (by rw [gsize TO, List.size_toArray, EO.len]) (gall_one (E := EO) _) ?_
        refine hK.out _ _ trivial (fun _ => ?_)
        clear hK
        try simp only [List.getElem_toArray, List.getElem_cons_zero, List.getElem_cons_succ, Act.put, List.setIfInBounds_toArray, List.set_cons_zero, List.set_cons_succ]
        refine wpAnyH_take (i := 22) (v := .pointer (some ⟨blk, q * 5, none⟩)) rfl (by kernel_rfl) (by kernel_rfl) (by kernel_rfl) (fun _ _ _ h => h) (.inl ⟨by rfl, ?_⟩) (by assumption) ?_
        · intro W hW; go_simp
        try simp only [List.getElem_toArray, List.getElem_cons_zero, List.getElem_cons_succ, Act.put, List.setIfInBounds_toArray, List.set_cons_zero, List.set_cons_succ]
        refine wpAnyH_ready (rs := [23]) (by decide +kernel) (by simp) (AllReadyH.cons rfl (fun KQ hK => ?_) AllReadyH.nil)
        rw [if_pos (by rfl)]
        refine wp_store_mid 31 _ _ rfl blk (q * 5) (EO.cells (pko8 l0 (G p))).toArray rfl rfl (World.there_setCells TQ.out _ _ _) (by rw [gsize TO, List.size_toArray, EO.len]) (gall_one (E := EO) _) ?_
        refine hK.out _ _ trivial (fun _ => ?_)
        clear hK
        try simp only [List.getElem_toArray, List.getElem_cons_zero, List.getElem_cons_succ, Act.put, List.setIfInBounds_toArray, List.set_cons_zero, List.set_cons_succ]
        refine wpAnyH_done (by decide +kernel) ?_ _
        go_wp2
        go_roundw
        case rel => exact ⟨i + 1, by go_num, by omega, by rw [← St.sw_range (by omega), HG.out, hp, hq]; exact S.out⟩
        case measure => simp [intOf]; omega
    · obtain rfl : i = n := by omega
      go_wp2
      go_end0
      exact ⟨rfl, hR⟩

theorem rot_stopo8 {a m b i : Nat} {f g : Nat → Int} (h : St.rot (m - i) m (m + i) g = St.rot a m b f) (hi : i ≤ m) : St.swr (m - i) m i g = St.rot a m b f := by rw [St.rot_same g hi, h]
theorem rot_gto8 {a m b i j : Nat} {f g : Nat → Int} (h : St.rot (m - i) m (m + j) g = St.rot a m b f) (hi : i ≤ m) (hj : j < i) : St.rot (m - (i - j)) m (m + j) (St.swr (m - i) m j g) = St.rot a m b f := by rw [St.rot_more g hi hj, h]
theorem rot_lto8 {a m b i j : Nat} {f g : Nat → Int} (h : St.rot (m - i) m (m + j) g = St.rot a m b f) (hi : i ≤ m) (hj : i < j) : St.rot (m - i) m (m + (j - i)) (St.swr (m - i) (m + j - i) i g) = St.rot a m b f := by rw [St.rot_less g hi hj, h]
theorem swap_ato8 (w : World) (blk N cap : Nat) (l0 : List Or) (hN : N < 4611686018427387904) (cv : Value) (va vb vn : Int) (a b n : Nat) (ea : va = a) (eb : vb = b) (en : vn = n) (f : Nat → Int) (W : World) (hO : Ono8 w blk cap N l0 f W) (h1 : a + n ≤ b) (h2 : b + n ≤ N) :
    Calls Try.prog 31 #[.slice (some ⟨blk, 0, none⟩) N cap, .int .i64 va, .int .i64 vb, .int .i64 vn, cv] W fun e w' => e = .returned (.tuple #[]) ∧ Ono8 w blk cap N l0 (St.swr a b n f) w' := by
  subst ea eb en
  exact swap_o8 w blk N cap l0 hN cv a b n f W hO h1 h2
set_option maxRecDepth 100000 in
set_option maxHeartbeats 1000000 in
theorem rotate_o8 (w : World) (blk N cap : Nat) (l0 : List Or) (hN : N < 4611686018427387904) (cv : Value) (a m b : Nat) (f : Nat → Int) (W : World) (hO : Ono8 w blk cap N l0 f W) (h1 : a < m) (h2 : m < b) (h3 : b ≤ N) :
    Calls Try.prog 30 #[.slice (some ⟨blk, 0, none⟩) N cap, .int .i64 a, .int .i64 m, .int .i64 b, cv] W fun e w' => e = .returned (.tuple #[]) ∧ Ono8 w blk cap N l0 (St.rot a m b f) w' := by
  go_enter Try.func30, Try.ntmps30
  go_wp2
  go_loopw [10, 11] (fun vi vj wr => ∃ (i j : Nat) (g : Nat → Int), vi = .int .i64 i ∧ vj = .int .i64 j ∧ 0 < i ∧ i ≤ m ∧ 0 < j ∧ m + j ≤ N ∧ Ono8 w blk cap N l0 g wr ∧ St.rot (m - i) m (m + j) g = St.rot a m b f) (fun vi vj _ => (intOf vi).toNat + (intOf vj).toNat)
  case atStart =>
    refine ⟨m - a, b - m, f, ?_, ?_, by omega, by omega, by omega, by omega, hO, ?_⟩
    · congr 1; omega
    · congr 1; omega
    · rw [show m - (m - a) = a by omega, show m + (b - m) = b by omega]
  case round =>
    obtain ⟨i, j, g, rfl, rfl, hi0, him, hj0, hjn, hR, hg⟩ := hrel
    have HG := Lib.hid hg
    clear hg hO
    rcases Nat.lt_trichotomy j i with hlt | hlt | hlt
    · have hne : i ≠ j := by omega
      go_wp2_with fail
      refine (swap_ato8 w blk N cap l0 hN cv _ _ _ (m - i) m j (by omega) rfl rfl g _ hR (by omega) (by omega)).mono ?_; rintro e w1 ⟨rfl, hR1⟩
      go_wp2_with fail
      go_roundw
      case rel => exact ⟨i - j, j, _, by congr 1; omega, rfl, by omega, by omega, by omega, hjn, hR1, rot_gto8 HG.out him hlt⟩
      case measure => simp [intOf]; omega
    · subst hlt
      go_wp2_with fail
      refine (swap_ato8 w blk N cap l0 hN cv _ _ _ (m - j) m j (by omega) rfl rfl g _ hR (by omega) (by omega)).mono ?_; rintro e w1 ⟨rfl, hR1⟩
      go_wp2_with fail
      go_end0
      refine ⟨rfl, ?_⟩
      rw [← rot_stopo8 HG.out him]
      exact hR1
    · have hne : i ≠ j := by omega
      have hng : ¬ j < i := by omega
      go_wp2_with fail
      refine (swap_ato8 w blk N cap l0 hN cv _ _ _ (m - i) (m + j - i) i (by omega) (by omega) rfl g _ hR (by omega) (by omega)).mono ?_; rintro e w1 ⟨rfl, hR1⟩
      go_wp2_with fail
      go_roundw
      case rel => exact ⟨i, j - i, _, rfl, by congr 1; omega, hi0, him, by omega, by omega, hR1, rot_lto8 HG.out him hlt⟩
      case measure => simp [intOf]; omega
end Go.Proofs.Ytcjianjnedbjkaa
