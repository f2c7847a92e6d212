/- The program's placesRise (by genPb.py). -/
import Derived.Test.YthnmpnepgagmmaaPa
import Derived.Test.YthnmpnepgagmmaaOe
namespace Go.Proofs.Ythnmpnepgagmmaa
open Go.RowKit Go.Shelf
set_option linter.unusedVariables false
set_option linter.unusedSimpArgs false

theorem wp_midP {P : Program} {Q : Exit → Act → World → Prop} {a : Act} {w : World} {x y : Code} (Mid : Act → World → Prop) (h1 : ∀ K : Act → World → Prop, (∀ a w, Mid a w → K a w) → x.wp P (Exit.then K Q) a w) (h2 : ∀ a w, Mid a w → y.wp P Q a w) : (Code.seq x y).wp P Q a w :=
  wp_seq_k fun K hK => h1 K fun a w h => hK a w (h2 a w h)
theorem two_blkP {U : World} {p q : Po} (cs ds : Array Value) (hc : cs = (EP.cells p).toArray) (hd : ds = (EP.cells q).toArray) : True := trivial
set_option maxRecDepth 100000 in
set_option maxHeartbeats 8000000 in
theorem lpr9 (A : Option Addr) (n c : Nat) (hl : List Po) (w : World) (h : EP.Rd w A n hl) (hn : n ≤ 200) :
    Calls Try.prog 48 #[.slice A n c] w fun e w' => e = .returned (.bool (chB none hl)) ∧ Below w.heap.size w w' := by
  have HR := Lib.hid h
  have hz := zero_po
  have HN : Hid (hl.length = n) := Lib.hid h.1
  obtain ⟨r, hr⟩ : ∃ r, chB none hl = r := ⟨_, rfl⟩
  have R0 : Hid ((∃ p, hl[0]? = some p ∧ r = chB (some p) (hl.drop 1)) ∨ (n = 0 ∧ r = true)) := Lib.hid (by
    rw [← hr, ← HN.out]
    cases hl with
    | nil => exact .inr ⟨rfl, rfl⟩
    | cons x t => exact .inl ⟨x, rfl, rfl⟩)
  rw [hr]
  clear h hr
  go_enter Try.func48, Try.ntmps48
  go_wp2_with fail
  go_loopw [3] (fun i wr => ∃ k : Nat, i = .int .i64 ((k : Int) + 1) ∧ k ≤ 200 ∧ ((∃ p, hl[k]? = some p ∧ r = chB (some p) (hl.drop (k + 1))) ∨ (n = 0 ∧ r = true)) ∧ Below w.heap.size w wr) (fun i _ => n + 1 - (intOf i).toNat)
  case atStart => exact ⟨0, rfl, Nat.zero_le _, R0.out, Below.refl _ _⟩
  case round =>
    obtain ⟨k, rfl, hk, hst, hB⟩ := hrel
    have HB := Lib.hid hB
    clear hB
    by_cases hlt : k + 1 < n
    case neg =>
      have hd : decide ((k : Int) + 1 < n) = false := decide_eq_false (by omega)
      have E : Hid (r = true) := Lib.hid (by
        rcases hst with ⟨p, _, e⟩ | ⟨_, e⟩
        · rw [e, List.drop_of_length_le (by rw [HN.out]; omega)]; rfl
        · exact e)
      clear hst
      go_wp2_with fail
      go_ret
      rw [E.out]
      exact ⟨rfl, HB.out⟩
    case pos =>
      have hd : decide ((k : Int) + 1 < n) = true := decide_eq_true (by omega)
      have hki : (k : Int) < (n : Int) := by omega
      have hkj : (k : Int) + 1 < (n : Int) := by omega
      have ws : wrap64 ((k : Int) + 1 - 1) = (k : Int) := by unfold wrap64; omega
      have wk0 : IntKind.i64.wrap (k : Int) = (k : Int) := by rw [IntKind.wrap_i64]; omega
      have wk : wrap64 ((k : Int) + 1 + 1) = (k : Int) + 1 + 1 := by unfold wrap64; omega
      obtain ⟨p, hp, hre⟩ : ∃ p, hl[k]? = some p ∧ r = chB (some p) (hl.drop (k + 1)) := by
        rcases hst with h | ⟨e, _⟩
        · exact h
        · omega
      obtain ⟨q, hq⟩ : ∃ q, hl[k + 1]? = some q := ⟨hl[k + 1]'(by have := HN.out; omega), List.getElem?_eq_getElem _⟩
      obtain ⟨b, o, e1, rg⟩ := grd_rng HR.out hp
      obtain ⟨b', o', e2, rg'⟩ := grd_rng HR.out hq
      subst e1
      cases e2
      have RG : Hid (∀ U, Below wr.heap.size wr U → U.rangeAt b (o + k * 4) (EP.cells p) ∧ U.rangeAt b (o + (k + 1) * 4) (EP.cells q)) := Lib.hid (fun U qq => ⟨rng_below rg (HB.out.trans (qq.mono HB.out.size)) (Nat.le_refl _), rng_below rg' (HB.out.trans (qq.mono HB.out.size)) (Nat.le_refl _)⟩)
      have HX : Hid (r = (folB p q && chB (some q) (hl.drop (k + 1 + 1)))) := Lib.hid (by rw [hre, drop_at hq]; rfl)
      have HQ := Lib.hid hq
      have ecast : ((k + 1 : Nat) : Int) = (k : Int) + 1 := by simp
      clear hst hp hre rg rg' hq
      apply wp_seq_k; intro K1 h1; have H1 := Lib.hid h1; clear h1
      go_wp2_with fail
      refine H1.out _ _ ?_
      clear H1
      apply wp_seq_k; intro K2 h2; have H2 := Lib.hid h2; clear h2
      refine wp_block ?_
      refine wp_midP (fun a' U => ∃ i j : Nat, Below wr.heap.size wr U ∧ EP.Bx 47 U i p ∧ EP.Bx 47 U j q ∧ ∃ u : Nat → Value, a' = { tmps := #[.slice (some ⟨b, o, none⟩) n c, undef, u 2, .int .i64 ((k : Int) + 1), .pointer (some ⟨i, 0, none⟩), .pointer (some ⟨j, 0, none⟩), u 6, u 7, u 8, u 9, u 10, u 11, u 12, u 13, u 14, u 15, u 16, u 17, u 18, u 19, u 20, u 21, u 22, u 23, u 24, u 25, u 26, u 27, u 28, u 29, u 30, u 31, u 32, u 33, u 34, u 35, u 36, u 37, u 38, u 39], defers := [] }) ?rgX ?tlX
      case rgX =>
        intro KM hKM; have HKM := Lib.hid hKM; clear hKM
        refine wp_region_held_drew (S := fun U => Below wr.heap.size wr U) (by kernel_rfl) (Below.refl _ _).drew (fun hH => ?_)
        refine wpAnyH_take (i := 0) (v := .slice (some ⟨b, o, none⟩) n c) rfl (by kernel_rfl) (by kernel_rfl) (by kernel_rfl) (fun _ _ _ h => h) (.inl ⟨by rfl, ?_⟩) (by assumption) ?_
        · intro W hW; go_simp
        try simp only [List.getElem_toArray, List.getElem_cons_zero, List.getElem_cons_succ, Act.put, List.setIfInBounds_toArray, List.set_cons_zero, List.set_cons_succ]
        refine wpAnyH_take (i := 1) (v := .int .i64 ((k : Int) + 1)) rfl (by kernel_rfl) (by kernel_rfl) (by kernel_rfl) (fun _ _ _ h => h) (.inl ⟨by rfl, ?_⟩) (by assumption) ?_
        · intro W hW; go_simp
        try simp only [List.getElem_toArray, List.getElem_cons_zero, List.getElem_cons_succ, Act.put, List.setIfInBounds_toArray, List.set_cons_zero, List.set_cons_succ]
        refine wpAnyH_take (i := 2) (v := .int .i64 (k : Int)) rfl (by kernel_rfl) (by kernel_rfl) (by kernel_rfl) (fun _ _ _ h => h) (.inl ⟨by rfl, ?_⟩) (by assumption) ?_
        · intro W hW; go_simp
        try simp only [List.getElem_toArray, List.getElem_cons_zero, List.getElem_cons_succ, Act.put, List.setIfInBounds_toArray, List.set_cons_zero, List.set_cons_succ]
        refine wpAnyH_take (i := 3) (v := .pointer (some ⟨b, o + k * 4, none⟩)) rfl (by kernel_rfl) (by kernel_rfl) (by kernel_rfl) (fun _ _ _ h => h) (.inl ⟨by rfl, ?_⟩) (by assumption) ?_
        · intro W hW; go_simp
        try simp only [List.getElem_toArray, List.getElem_cons_zero, List.getElem_cons_succ, Act.put, List.setIfInBounds_toArray, List.set_cons_zero, List.set_cons_succ]
        refine wpAnyH_take (i := 4) (v := .agg (EP.cells p).toArray) rfl (by kernel_rfl) (by kernel_rfl) (by kernel_rfl) (fun _ _ _ h => h) (gyields_load TP (by rfl) (.tmp 15) rfl b (o + k * 4) rfl (fun U hU => (RG.out U hU).1)) (by assumption) ?_
        try simp only [List.getElem_toArray, List.getElem_cons_zero, List.getElem_cons_succ, Act.put, List.setIfInBounds_toArray, List.set_cons_zero, List.set_cons_succ]
        refine wpAnyH_take (i := 5) (v := .slice (some ⟨b, o, none⟩) n c) rfl (by kernel_rfl) (by kernel_rfl) (by kernel_rfl) (fun _ _ _ h => h) (.inl ⟨by rfl, ?_⟩) (by assumption) ?_
        · intro W hW; go_simp
        try simp only [List.getElem_toArray, List.getElem_cons_zero, List.getElem_cons_succ, Act.put, List.setIfInBounds_toArray, List.set_cons_zero, List.set_cons_succ]
        refine wpAnyH_take (i := 6) (v := .int .i64 ((k : Int) + 1)) rfl (by kernel_rfl) (by kernel_rfl) (by kernel_rfl) (fun _ _ _ h => h) (.inl ⟨by rfl, ?_⟩) (by assumption) ?_
        · intro W hW; go_simp
        try simp only [List.getElem_toArray, List.getElem_cons_zero, List.getElem_cons_succ, Act.put, List.setIfInBounds_toArray, List.set_cons_zero, List.set_cons_succ]
        refine wpAnyH_take (i := 7) (v := .pointer (some ⟨b, o + (k + 1) * 4, none⟩)) rfl (by kernel_rfl) (by kernel_rfl) (by kernel_rfl) (fun _ _ _ h => h) (.inl ⟨by rfl, ?_⟩) (by assumption) ?_
        · intro W hW; go_simp; try (intro; omega)
        try simp only [List.getElem_toArray, List.getElem_cons_zero, List.getElem_cons_succ, Act.put, List.setIfInBounds_toArray, List.set_cons_zero, List.set_cons_succ]
        refine wpAnyH_take (i := 8) (v := .agg (EP.cells q).toArray) rfl (by kernel_rfl) (by kernel_rfl) (by kernel_rfl) (fun _ _ _ h => h) (gyields_load TP (by rfl) (.tmp 19) rfl b (o + (k + 1) * 4) rfl (fun U hU => (RG.out U hU).2)) (by assumption) ?_
        try simp only [List.getElem_toArray, List.getElem_cons_zero, List.getElem_cons_succ, Act.put, List.setIfInBounds_toArray, List.set_cons_zero, List.set_cons_succ]
        refine wpAnyH_ready (rs := [9, 10]) (by decide +kernel) (by simp) (AllReadyH.cons rfl (fun KQ hK => ?_) (AllReadyH.cons rfl (fun KQ hK => ?_) AllReadyH.nil))
        · rw [if_pos (by rfl)]
          refine gwp_alloc 47 rfl zero_po ?_
          have b1 := hH.trans ((below_new wr.drew (.cells (EP.cells zeroPo).toArray 47)).mono hH.size)
          have x1 := gbx_new (E := EP) (te := 47) wr.drew zeroPo
          obtain ⟨V1, hV1⟩ : ∃ V1, wr.drew.alloc (.cells (EP.cells zeroPo).toArray 47) = V1 := ⟨_, rfl⟩
          obtain ⟨i1, hi1⟩ : ∃ i1, wr.drew.heap.size = i1 := ⟨_, rfl⟩
          rw [hV1] at b1 x1 ⊢
          rw [hi1] at x1 ⊢
          refine hK.out _ _ b1 (fun _ => ?_)
          clear hK hV1
          try simp only [List.getElem_toArray, List.getElem_cons_zero, List.getElem_cons_succ, Act.put, List.setIfInBounds_toArray, List.set_cons_zero, List.set_cons_succ]
          refine wpAnyH_ready (rs := [10]) (by decide +kernel) (by simp) (AllReadyH.cons rfl (fun KQ hK => ?_) AllReadyH.nil)
          rw [if_pos (by rfl)]
          refine gwp_alloc 47 rfl zero_po ?_
          have b12 := below_new V1 (.cells (EP.cells zeroPo).toArray 47)
          have b2 := b1.trans (b12.mono b1.size)
          have l1 := (Array.getElem?_eq_some_iff.1 x1).1
          have x2 := gbx_new (E := EP) (te := 47) V1 zeroPo
          have x12 := gbx_below x1 b12
          obtain ⟨V2, hV2⟩ : ∃ V2, V1.alloc (.cells (EP.cells zeroPo).toArray 47) = V2 := ⟨_, rfl⟩
          obtain ⟨i2, hi2⟩ : ∃ i2, V1.heap.size = i2 := ⟨_, rfl⟩
          rw [hV2] at b2 x2 x12 ⊢
          rw [hi2] at x2 l1 ⊢
          refine hK.out _ _ b2 (fun _ => ?_)
          clear hK hV2 b12 x1
          try simp only [List.getElem_toArray, List.getElem_cons_zero, List.getElem_cons_succ, Act.put, List.setIfInBounds_toArray, List.set_cons_zero, List.set_cons_succ]
          have gi1 : wr.heap.size ≤ i1 := by rw [← hi1]; exact Nat.le_refl _
          have gi2 : wr.heap.size ≤ i2 := by rw [← hi2]; exact b1.size
          refine wpAnyH_ready (rs := [11]) (by decide +kernel) (by simp) (AllReadyH.cons rfl (fun KQ hK => ?_) AllReadyH.nil)
          rw [if_pos (by rfl)]
          refine gwp_store TP (.tmp 4) (.tmp 16) rfl p i1 x12 rfl rfl ?_
          have b3 := below_row0 (cs := (EP.cells p).toArray) b2 gi1
          have x3 := gbx_set (x := p) x12
          have x4 : EP.Bx 47 (V2.setRow i1 (EP.cells p).toArray) i2 zeroPo := (setRow_other V2 i1 i2 _ (by omega)).trans x2
          refine hK.out _ _ b3 (fun _ => ?_)
          clear hK
          try simp only [List.getElem_toArray, List.getElem_cons_zero, List.getElem_cons_succ, Act.put, List.setIfInBounds_toArray, List.set_cons_zero, List.set_cons_succ]
          refine wpAnyH_ready (rs := [12]) (by decide +kernel) (by simp) (AllReadyH.cons rfl (fun KQ hK => ?_) AllReadyH.nil)
          rw [if_pos (by rfl)]
          refine gwp_store TP (.tmp 5) (.tmp 20) rfl q i2 x4 rfl rfl ?_
          have b5 := below_row0 (cs := (EP.cells q).toArray) b3 gi2
          have x5 := gbx_set (x := q) x4
          have x6 : EP.Bx 47 ((V2.setRow i1 (EP.cells p).toArray).setRow i2 (EP.cells q).toArray) i1 p := (setRow_other (V2.setRow i1 (EP.cells p).toArray) i2 i1 _ (by omega)).trans x3
          refine hK.out _ _ b5 (fun _ => ?_)
          clear hK
          try simp only [List.getElem_toArray, List.getElem_cons_zero, List.getElem_cons_succ, Act.put, List.setIfInBounds_toArray, List.set_cons_zero, List.set_cons_succ]
          refine wpAnyH_done (by decide +kernel) ?_ _
          refine HKM.out _ _ ?_
          exact ⟨i1, i2, b5, x6, x5, intro_uE rfl⟩
        · rw [if_pos (by rfl)]
          refine gwp_alloc 47 rfl zero_po ?_
          have b1 := hH.trans ((below_new wr.drew (.cells (EP.cells zeroPo).toArray 47)).mono hH.size)
          have x1 := gbx_new (E := EP) (te := 47) wr.drew zeroPo
          obtain ⟨V1, hV1⟩ : ∃ V1, wr.drew.alloc (.cells (EP.cells zeroPo).toArray 47) = V1 := ⟨_, rfl⟩
          obtain ⟨i1, hi1⟩ : ∃ i1, wr.drew.heap.size = i1 := ⟨_, rfl⟩
          rw [hV1] at b1 x1 ⊢
          rw [hi1] at x1 ⊢
          refine hK.out _ _ b1 (fun _ => ?_)
          clear hK hV1
          try simp only [List.getElem_toArray, List.getElem_cons_zero, List.getElem_cons_succ, Act.put, List.setIfInBounds_toArray, List.set_cons_zero, List.set_cons_succ]
          refine wpAnyH_ready (rs := [9]) (by decide +kernel) (by simp) (AllReadyH.cons rfl (fun KQ hK => ?_) AllReadyH.nil)
          rw [if_pos (by rfl)]
          refine gwp_alloc 47 rfl zero_po ?_
          have b12 := below_new V1 (.cells (EP.cells zeroPo).toArray 47)
          have b2 := b1.trans (b12.mono b1.size)
          have l1 := (Array.getElem?_eq_some_iff.1 x1).1
          have x2 := gbx_new (E := EP) (te := 47) V1 zeroPo
          have x12 := gbx_below x1 b12
          obtain ⟨V2, hV2⟩ : ∃ V2, V1.alloc (.cells (EP.cells zeroPo).toArray 47) = V2 := ⟨_, rfl⟩
          obtain ⟨i2, hi2⟩ : ∃ i2, V1.heap.size = i2 := ⟨_, rfl⟩
          rw [hV2] at b2 x2 x12 ⊢
          rw [hi2] at x2 l1 ⊢
          refine hK.out _ _ b2 (fun _ => ?_)
          clear hK hV2 b12 x1
          try simp only [List.getElem_toArray, List.getElem_cons_zero, List.getElem_cons_succ, Act.put, List.setIfInBounds_toArray, List.set_cons_zero, List.set_cons_succ]
          have gi1 : wr.heap.size ≤ i1 := by rw [← hi1]; exact Nat.le_refl _
          have gi2 : wr.heap.size ≤ i2 := by rw [← hi2]; exact b1.size
          refine wpAnyH_ready (rs := [11]) (by decide +kernel) (by simp) (AllReadyH.cons rfl (fun KQ hK => ?_) AllReadyH.nil)
          rw [if_pos (by rfl)]
          refine gwp_store TP (.tmp 4) (.tmp 16) rfl p i2 x2 rfl rfl ?_
          have b3 := below_row0 (cs := (EP.cells p).toArray) b2 gi2
          have x3 := gbx_set (x := p) x2
          have x4 : EP.Bx 47 (V2.setRow i2 (EP.cells p).toArray) i1 zeroPo := (setRow_other V2 i2 i1 _ (by omega)).trans x12
          refine hK.out _ _ b3 (fun _ => ?_)
          clear hK
          try simp only [List.getElem_toArray, List.getElem_cons_zero, List.getElem_cons_succ, Act.put, List.setIfInBounds_toArray, List.set_cons_zero, List.set_cons_succ]
          refine wpAnyH_ready (rs := [12]) (by decide +kernel) (by simp) (AllReadyH.cons rfl (fun KQ hK => ?_) AllReadyH.nil)
          rw [if_pos (by rfl)]
          refine gwp_store TP (.tmp 5) (.tmp 20) rfl q i1 x4 rfl rfl ?_
          have b5 := below_row0 (cs := (EP.cells q).toArray) b3 gi1
          have x5 := gbx_set (x := q) x4
          have x6 : EP.Bx 47 ((V2.setRow i2 (EP.cells p).toArray).setRow i1 (EP.cells q).toArray) i2 p := (setRow_other (V2.setRow i2 (EP.cells p).toArray) i1 i2 _ (by omega)).trans x3
          refine hK.out _ _ b5 (fun _ => ?_)
          clear hK
          try simp only [List.getElem_toArray, List.getElem_cons_zero, List.getElem_cons_succ, Act.put, List.setIfInBounds_toArray, List.set_cons_zero, List.set_cons_succ]
          refine wpAnyH_done (by decide +kernel) ?_ _
          refine HKM.out _ _ ?_
          exact ⟨i2, i1, b5, x6, x5, intro_uE rfl⟩
      case tlX =>
        rintro a1 U ⟨i, j, bU, xi, xj, u, rfl⟩
        have BU := Lib.hid bU
        have i0 : U.cell? ⟨i, 0, none⟩ = some (.int .u32 p.co) := gbx_cell xi 0
        have i1 : U.cell? ⟨i, 1, none⟩ = some (.int .u32 p.ac) := gbx_cell xi 1
        have j0 : U.cell? ⟨j, 0, none⟩ = some (.int .u32 q.co) := gbx_cell xj 0
        have j1 : U.cell? ⟨j, 1, none⟩ = some (.int .u32 q.ac) := gbx_cell xj 1
        unfold folB at HX
        obtain ⟨pc, hpc⟩ : ∃ v, p.co = v := ⟨_, rfl⟩
        obtain ⟨pa, hpa⟩ : ∃ v, p.ac = v := ⟨_, rfl⟩
        obtain ⟨qc, hqc⟩ : ∃ v, q.co = v := ⟨_, rfl⟩
        obtain ⟨qa, hqa⟩ : ∃ v, q.ac = v := ⟨_, rfl⟩
        rw [hpc] at i0 HX
        rw [hpa] at i1 HX
        rw [hqc] at j0 HX
        rw [hqa] at j1 HX
        clear hpc hpa hqc hqa bU xi xj
        have bad : ∀ t : Bool, t = false → Hid (r = (t && chB (some q) (hl.drop (k + 1 + 1)))) → Hid (r = false) := fun t ht h => Lib.hid (by rw [h.out, ht]; rfl)
        have good : ∀ t : Bool, t = true → Hid (r = (t && chB (some q) (hl.drop (k + 1 + 1)))) → Hid (r = chB (some q) (hl.drop (k + 1 + 1))) := fun t ht h => Lib.hid (by rw [h.out, ht]; rfl)
        by_cases c1 : qc < pc
        · have d1 : decide (qc < pc) = true := decide_eq_true c1
          have E := bad _ (by simp; omega) HX
          clear bad good HX c1
          go_wp2_with fail
          go_ret
          rw [E.out]
          exact ⟨rfl, HB.out.trans (BU.out.mono HB.out.size)⟩
        · have d1 : decide (qc < pc) = false := decide_eq_false c1
          by_cases c2 : pc = qc
          · have d2 : (pc == qc) = true := by simpa using c2
            by_cases c3 : qa ≤ pa
            · have d3 : decide (qa ≤ pa) = true := decide_eq_true c3
              have E := bad _ (by simp; omega) HX
              clear bad good HX c1 c2 c3
              go_wp2_with fail
              go_ret
              rw [E.out]
              exact ⟨rfl, HB.out.trans (BU.out.mono HB.out.size)⟩
            · have d3 : decide (qa ≤ pa) = false := decide_eq_false c3
              have E := good _ (by simp; omega) HX
              clear bad good HX c1 c2 c3
              go_wp2_with fail
              refine H2.out _ _ ?_
              go_wp2_with fail
              try rw [wk]
              go_roundw
              case rel => exact ⟨k + 1, by simp, by omega, .inl ⟨q, HQ.out, E.out⟩, HB.out.trans (BU.out.mono HB.out.size)⟩
              case measure => simp only [intOf]; omega
          · have d2 : (pc == qc) = false := by simpa using c2
            have E := good _ (by simp; omega) HX
            clear bad good HX c1 c2
            go_wp2_with fail
            refine H2.out _ _ ?_
            go_wp2_with fail
            try rw [wk]
            go_roundw
            case rel => exact ⟨k + 1, by simp, by omega, .inl ⟨q, HQ.out, E.out⟩, HB.out.trans (BU.out.mono HB.out.size)⟩
            case measure => simp only [intOf]; omega
end Go.Proofs.Ythnmpnepgagmmaa
