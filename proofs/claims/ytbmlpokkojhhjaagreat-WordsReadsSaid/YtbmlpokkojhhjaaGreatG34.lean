/- The program's words: a reply read (by genWfy.py). -/
import Derived.Test.YtbmlpokkojhhjaaGreatG33
import Derived.Test.YtbmlpokkojhhjaaGreatG03
namespace Go.Proofs.YtbmlpokkojhhjaaGreat.Wz
open Go.RowKit
set_option linter.unusedVariables false
set_option linter.unusedSimpArgs false

/-- A reply being read: the result's cell g0, the reader g, the reader's own box gb, the reply's box gr, and rows behind these. -/
structure Tr (w : World) (g0 g gb gr : Nat) (W : World) (v : Rv) (ts : List Tw) (gs as' : List Int) (b : List Int) (e : Int) : Prop where
  rq : ∃ A n k, Rq W g A n k b e ∧ ∀ a, A = some a → a.block < gb
  rb : W.cell? ⟨gb, 0, none⟩ = some (.pointer (some ⟨g, 0, none⟩))
  box : ERv.Bx 40 W gr v
  res : ERv.Bx 40 W g0 zeroRv
  o1 : g0 < g
  o2 : g < gb
  o3 : gb < gr
  bel : Below g0 w W
  by' : By b
  len : b.length ≤ 100000
  ot : ETw.Own 72 W (gr + 1) (.slice v.tA v.tl v.tc) ts
  og : E6w.Own 26 W (gr + 1) (.slice v.gA v.gl v.gc) gs
  oa : E3w.Own 25 W (gr + 1) (.slice v.aA v.al v.ac) as'
section
variable {w W W' : World} {g0 g gb gr : Nat} {v v' : Rv} {ts ts' : List Tw} {gs gs' as' as'' b b' : List Int} {e e' : Int}
theorem Tr.size (h : Tr w g0 g gb gr W v ts gs as' b e) : gr < W.heap.size := (Array.getElem?_eq_some_iff.1 h.box).1
theorem Tr.grow (h : Tr w g0 g gb gr W v ts gs as' b e) {A1 : Option Addr} (hA1 : ∀ a, A1 = some a → a.block < gb) (d : Dd W g A1 b' e' W') (hy : By b') (hl : b'.length ≤ b.length) : Tr w g0 g gb gr W' v ts gs as' b' e' := by
  obtain ⟨⟨A', n, k, rq, hA'⟩, gr'⟩ := d
  have h1 := h.o1
  have h2 := h.o2
  have h3 := h.o3
  have hs := h.size
  have keep : ∀ j, j < W.heap.size → j ≠ g → W'.heap[j]? = W.heap[j]? := fun j hj hne => gr'.block j hj (by simp; omega)
  refine ⟨⟨A', n, k, rq, fun a ha => ?_⟩, ?_, (keep gr hs (by omega)).trans h.box, (keep g0 (by omega) (by omega)).trans h.res, h1, h2, h3, h.bel.grown gr' (by omega) (fun j hj => by cases hj; omega), hy, Nat.le_trans hl h.len,
    gown_same h.ot fun j hj => keep j (gown_lt h.ot hj).2 (by have := (gown_lt h.ot hj).1; omega), gown_same h.og fun j hj => keep j (gown_lt h.og hj).2 (by have := (gown_lt h.og hj).1; omega), gown_same h.oa fun j hj => keep j (gown_lt h.oa hj).2 (by have := (gown_lt h.oa hj).1; omega)⟩
  · obtain ⟨a1, e1, e2⟩ := hA' a ha
    rw [e2]; exact hA1 a1 e1
  · rw [← h.rb]; unfold World.cell?; rw [keep gb (by omega) (by omega)]
/-- A cell of the reply's box written. -/
theorem Tr.put (h : Tr w g0 g gb gr W v ts gs as' b e) {j : Nat} {u : Value} (eq : ERv.cells v' = (ERv.cells v).set j u)
    (h1 : ETw.Own 72 W (gr + 1) (.slice v'.tA v'.tl v'.tc) ts') (h2 : E6w.Own 26 W (gr + 1) (.slice v'.gA v'.gl v'.gc) gs') (h3 : E3w.Own 25 W (gr + 1) (.slice v'.aA v'.al v'.ac) as'') : Tr w g0 g gb gr (W.setCell ⟨gr, j, none⟩ u) v' ts' gs' as'' b e := by
  have k1 := h.o1
  have k2 := h.o2
  have k3 := h.o3
  have oth : ∀ i, i ≠ gr → (W.setCell ⟨gr, j, none⟩ u).heap[i]? = W.heap[i]? := fun i hi => heap_setCell_other _ _ _ _ hi
  obtain ⟨A, n, k, rq, hA⟩ := h.rq
  refine ⟨⟨A, n, k, ⟨(oth _ (by omega)).trans rq.b, ⟨rq.r.1, fun hn => ?_⟩, rq.nc⟩, hA⟩, ?_, gbx_put h.box eq, (oth _ (by omega)).trans h.res, k1, k2, k3, h.bel.setCell (show g0 ≤ gr by omega) _, h.by', h.len,
    gown_same h1 fun i hi => oth i (by have := (gown_lt h1 hi).1; omega), gown_same h2 fun i hi => oth i (by have := (gown_lt h2 hi).1; omega), gown_same h3 fun i hi => oth i (by have := (gown_lt h3 hi).1; omega)⟩
  · obtain ⟨b', o, e1, hc⟩ := rq.r.2 hn
    refine ⟨b', o, e1, fun i hi => ?_⟩
    have hb : b' < gb := hA _ e1
    have := hc i hi
    simp only [World.cell?] at this ⊢
    rw [oth b' (by omega)]
    exact this
  · rw [← h.rb]; unfold World.cell?; rw [oth gb (by omega)]
theorem Tr.told (h : Tr w g0 g gb gr W v ts gs as' b e) {x : Rv} :
    ERv.Bx 40 (W.setRow g0 (ERv.cells x).toArray) g0 x ∧ v.ok ∧ v.In (W.setRow g0 (ERv.cells x).toArray) ⟨v.er, v.nu, v.fi, v.le, ts, gs, as'⟩ ∧ Below g0 w (W.setRow g0 (ERv.cells x).toArray) := by
  have k1 := h.o1
  have k2 := h.o2
  have k3 := h.o3
  have oth : ∀ i, i ≠ g0 → (W.setRow g0 (ERv.cells x).toArray).heap[i]? = W.heap[i]? := fun i hi => setRow_other W g0 i _ (by omega)
  have o1 := gown_same (W := W.setRow g0 (ERv.cells x).toArray) h.ot fun i hi => oth i (by have := (gown_lt h.ot hi).1; omega)
  have o2 := gown_same (W := W.setRow g0 (ERv.cells x).toArray) h.og fun i hi => oth i (by have := (gown_lt h.og hi).1; omega)
  have o3 := gown_same (W := W.setRow g0 (ERv.cells x).toArray) h.oa fun i hi => oth i (by have := (gown_lt h.oa hi).1; omega)
  have c1 := gown_capn15 o1
  have c2 := gown_capn15 o2
  have c3 := gown_capn15 o3
  obtain ⟨A1, d1, e1, z1⟩ := gown_form o1
  obtain ⟨A2, d2, e2, z2⟩ := gown_form o2
  obtain ⟨A3, d3, e3, z3⟩ := gown_form o3
  simp only [Value.slice.injEq] at e1 e2 e3
  exact ⟨gbx_set h.res, ⟨by omega, by omega, by omega, fun hn => by rw [e1.2.2]; exact z1 (e1.1 ▸ hn), fun hn => by rw [e2.2.2]; exact z2 (e2.1 ▸ hn), fun hn => by rw [e3.2.2]; exact z3 (e3.1 ▸ hn), c1, c2, c3⟩, ⟨rfl, rfl, rfl, rfl, gown_rd o1, gown_rd o2, gown_rd o3⟩, below_row0 h.bel (Nat.le_refl _)⟩
end
theorem zrv_ok : zeroRv.ok := by
  refine ⟨?_, ?_, ?_, ?_, ?_, ?_, ?_, ?_, ?_⟩ <;> simp [zeroRv]
theorem zrv_in (w : World) : zeroRv.In w zeroRw := ⟨rfl, rfl, rfl, rfl, grd_nil _ _, grd_nil _ _, grd_nil _ _⟩
set_option maxRecDepth 100000 in
set_option maxHeartbeats 32000000 in
theorem prdr15 (A0 : Option Addr) (n0 cap : Nat) (bs : List Int) (w : World) (h : RdB w A0 n0 bs) (hy : By bs) (ha : A0 = none → n0 = 0 ∧ cap = 0) (hn : n0 ≤ 100000) : Calls Tryz.prog 7 #[.slice A0 n0 cap] w fun e w' =>
    ∃ (v : Rv) (r : Rw) (E : Int), e = .returned (.tuple #[.agg (ERv.cells v).toArray, .int .i64 E]) ∧ v.ok ∧ v.In w' r ∧ (IsR bs r ∧ E = 0 ∨ (∀ d, ¬ IsR bs d) ∧ r = zeroRw ∧ E = 5) ∧ Below w.heap.size w w' := by
  have hzr := zero_rv15
  obtain ⟨g0, hg0⟩ : ∃ g, w.heap.size = g := ⟨_, rfl⟩
  obtain ⟨w1, hw1⟩ : ∃ W, w.alloc (.cells (ERv.cells zeroRv).toArray 40) = W := ⟨_, rfl⟩
  have b1 : Below g0 w w1 := by rw [← hw1, ← hg0]; exact below_new _ _
  have r1 : ERv.Bx 40 w1 g0 zeroRv := by rw [← hw1, ← hg0]; exact gbx_new w _
  have z1 : w1.heap.size = g0 + 1 := by rw [← hw1, ← hg0]; simp
  have NW := Lib.hid (newr_any A0 n0 cap bs w1 (h.below (hg0 ▸ b1)) (by omega) ha)
  have hl : bs.length ≤ 100000 := by rw [h.1]; exact hn
  have QY := Lib.hid (q_yes hy)
  have QN := Lib.hid (q_no (bs := bs))
  have HY := Lib.hid hy
  have HL := Lib.hid hl
  have B1 := Lib.hid b1
  have R1 := Lib.hid r1
  have Z1 := Lib.hid z1
  have HW1 := Lib.hid hw1
  have HG := Lib.hid hg0
  clear h ha hw1 b1 r1 z1 hg0 hl hy
  go_enter Tryz.func7, Tryz.ntmps7
  go_wp2_with (rw [HW1.out, HG.out])
  refine NW.out.mono ?_; rintro e w2 ⟨g, A2, n2, c2, rfl, rq, hA, q2, hg⟩
  have lg := rq.lt
  obtain ⟨gb, hgb⟩ : ∃ g, w2.heap.size = g := ⟨_, rfl⟩
  obtain ⟨w3, hw3⟩ : ∃ W, w2.alloc (.cells #[.pointer (some ⟨g, 0, none⟩)] 48) = W := ⟨_, rfl⟩
  have q3 : Below w2.heap.size w2 w3 := by rw [← hw3]; exact below_new _ _
  have z3 : w3.heap.size = gb + 1 := by rw [← hw3, ← hgb]; simp
  have kb : w3.cell? ⟨gb, 0, none⟩ = some (.pointer (some ⟨g, 0, none⟩)) := by rw [← hw3, ← hgb]; exact cell_new _ _ _
  have SM := small_any g n2 c2 A2 bs 0 999 w3 (rq.below q3) HY.out (by have := rq.r.1; have := HL.out; omega)
  have MV := sR_most HY.out 0 (m := 999) (by decide)
  have NB := Lib.hid (sR_by HY.out 0 999)
  obtain ⟨⟨v0, b0, e0⟩, hr⟩ : ∃ r, sR bs 0 999 = r := ⟨_, rfl⟩
  rw [hr] at SM MV NB
  dsimp only at SM MV NB
  have ew : IntKind.i64.wrap v0 = v0 := by
    simp [IntKind.wrap, IntKind.signed, IntKind.bits]
    omega
  have EW := Lib.hid ew
  have SM := Lib.hid SM
  have b3 : Hid (Below w1.heap.size w1 w3) := Lib.hid (q2.trans (q3.mono q2.size))
  have HA := Lib.hid hA
  have HGE := Lib.hid hg
  have LG := Lib.hid lg
  have HW3 := Lib.hid hw3
  have HGB := Lib.hid hgb
  have Z3 := Lib.hid z3
  have KB := Lib.hid kb
  clear rq hA hg q2 NW q3 z3 hw3 hgb lg ew
  go_wp2_with (rw [HW3.out, HGB.out])
  refine SM.out.mono ?_; rintro e w4 ⟨rfl, d4⟩
  have x4 : ERv.Bx 40 (w4.alloc (.cells (ERv.cells zeroRv).toArray 40)) w4.heap.size zeroRv := gbx_new w4 _
  obtain ⟨w5, hw5⟩ : ∃ W, (w4.alloc (.cells (ERv.cells zeroRv).toArray 40)).setRow w4.heap.size (ERv.cells { zeroRv with er := v0 }).toArray = W := ⟨_, rfl⟩
  obtain ⟨gr, hgr⟩ : ∃ g, w4.heap.size = g := ⟨_, rfl⟩
  have q5 : Below w4.heap.size w4 w5 := by rw [← hw5]; exact below_row0 (below_new _ _) (Nat.le_refl _)
  have T0 : Hid (Tr w g0 g gb gr w5 { zeroRv with er := v0 } [] [] [] b0 e0) := Lib.hid (by
    obtain ⟨A', n', k', rq, hA'⟩ := d4.1
    have l1 := Z1.out
    have l2 := HGE.out
    have l3 := LG.out
    have l4 := HGB.out
    have l5 := Z3.out
    have l6 : w3.heap.size ≤ w4.heap.size := d4.2.size
    have l7 := b3.out.size
    refine ⟨⟨A', n', k', rq.below q5, fun a ha => ?_⟩, ?_, by rw [← hw5, ← hgr]; exact gbx_set x4, ?_, by omega, by omega, by omega, ?_, NB.out.1, Nat.le_trans NB.out.2 HL.out, gown_nil _ _, gown_nil _ _, gown_nil _ _⟩
    · obtain ⟨a0, h1, h2⟩ := hA' a ha
      have := (HA.out a0 h1).2
      omega
    · refine cell_at ?_ q5 (by omega)
      rw [← KB.out]; unfold World.cell?; rw [d4.2.block gb (by omega) (by simp; omega)]
    · exact gbx_below ((d4.2.block g0 (by omega) (by simp; omega)).trans (gbx_below R1.out b3.out)) q5
    · have b4 : Below g0 w w4 := (B1.out.trans (b3.out.mono (by omega))).grown d4.2 (by omega) (fun j hj => by cases hj; omega)
      exact b4.trans (q5.mono (by omega)))
  have X4 := Lib.hid x4
  have HW5 := Lib.hid hw5
  have HGR := Lib.hid hgr
  have HR := Lib.hid hr
  clear d4 x4 hw5 hgr q5 SM HA NB hr
  have kr : w5.cell? ⟨gr, 0, none⟩ = some (.int .i64 v0) := rv_c15 T0.out.box rfl
  by_cases hv : v0 = 0
  case neg =>
    have c1 : decide (v0 = 0) = false := decide_eq_false hv
    have c2 : (v0 == 0) = false := by simpa using hv
    obtain ⟨bL, hbL⟩ : ∃ b, b0 = b := ⟨_, rfl⟩
    obtain ⟨eL, heL⟩ : ∃ b, e0 = b := ⟨_, rfl⟩
    rw [hbL, heL] at T0 HR
    have QE : Hid (qR bs = (⟨v0, 0, 0, 0, [], [], []⟩, bL, eL)) := Lib.hid (by unfold qR; rw [HR.out]; dsimp only; rw [if_neg hv])
    clear hv hbL heL
    obtain ⟨A9, n9, k9, rq9, -⟩ := T0.out.rq
    have DN := done_any g n9 k9 A9 bL eL w5 rq9 (by have := rq9.r.1; have := T0.out.len; omega)
    obtain ⟨D, hD⟩ : ∃ D : Int, (if eL = 0 ∧ 0 < bL.length then (5 : Int) else eL) = D := ⟨_, rfl⟩
    rw [hD] at DN
    have DN := Lib.hid DN
    have YES : Hid (D = 0 → IsR bs (⟨v0, 0, 0, 0, [], [], []⟩ : Rw)) := Lib.hid (by
      intro h
      have := QY.out
      rw [QE.out] at this
      exact this (hD.trans h))
    have NOT : Hid (D ≠ 0 → ∀ d, ¬ IsR bs d) := Lib.hid (by
      intro h
      have := QN.out
      rw [QE.out] at this
      exact this (hD ▸ h))
    have BX := Lib.hid (gbx_rng T0.out.box)
    have RES := Lib.hid T0.out.res
    have TO := Lib.hid fun x => T0.out.told (x := x)
    have kb := T0.out.rb
    clear rq9 hD
    by_cases h0 : D = 0
    case neg =>
      have d1 : decide (D = 0) = false := decide_eq_false h0
      have d2 : (D == 0) = false := by simpa using h0
      have d3 : (D != 0) = true := by simpa using h0
      have NO := Lib.hid (NOT.out h0)
      clear h0
      go_wp2_with (first | (rw [EW.out]) | (refine rwl_store TRv { zeroRv with er := v0 } w4.heap.size X4.out rfl rfl ?_; rw [HW5.out, HGR.out]))
      refine DN.out.mono ?_; rintro e9 w9 ⟨rfl, rfl⟩
      go_wp2_with (refine rwl_store TRv zeroRv g0 RES.out rfl rfl ?_)
      refine bodyPost_ret (rret TRv rfl _ _ g0 rfl rfl (gbx_set RES.out)) rfl ⟨zeroRv, zeroRw, 5, rfl, zrv_ok, zrv_in _, .inr ⟨NO.out, rfl, rfl⟩, ?_⟩
      rw [HG.out]; exact (TO.out zeroRv).2.2.2
    case pos =>
      subst h0
      have YE := Lib.hid (YES.out rfl)
      go_wp2_with (first | (rw [EW.out]) | (refine rwl_store TRv { zeroRv with er := v0 } w4.heap.size X4.out rfl rfl ?_; rw [HW5.out, HGR.out]))
      refine DN.out.mono ?_; rintro e9 w9 ⟨rfl, rfl⟩
      go_wp2_with (first | ((with_reducible refine rwl_load TRv gr 0 BX.out ?_ ?_ ?_); rfl; rfl) | (refine rwl_store TRv ({ zeroRv with er := v0 } : Rv) g0 RES.out rfl rfl ?_))
      refine bodyPost_ret (rret TRv rfl _ _ g0 rfl rfl (gbx_set RES.out)) rfl ⟨({ zeroRv with er := v0 } : Rv), (⟨v0, 0, 0, 0, [], [], []⟩ : Rw), 0, rfl, (TO.out ({ zeroRv with er := v0 } : Rv)).2.1, (TO.out ({ zeroRv with er := v0 } : Rv)).2.2.1, .inl ⟨YE.out, rfl⟩, ?_⟩
      rw [HG.out]; exact (TO.out ({ zeroRv with er := v0 } : Rv)).2.2.2
  case pos =>
    subst hv
    have kb := T0.out.rb
    have T : Hid (Tr w g0 g gb gr w5 (⟨0, 0, 0, 0, none, 0, 0, none, 0, 0, none, 0, 0⟩ : Rv) [] [] [] b0 e0) := Lib.hid T0.out
    clear T0
    obtain ⟨A, n, k, rq, hA⟩ := T.out.rq
    have C := nat_any g n k A b0 e0 w5 rq T.out.by' (by have := rq.r.1; have := T.out.len; omega)
    have NB := sR_by T.out.by' e0 top
    obtain ⟨⟨x1, b1, e1⟩, hx1⟩ : ∃ r, sR b0 e0 top = r := ⟨_, rfl⟩
    rw [hx1] at C NB
    dsimp only at C NB
    have HX1 := Lib.hid hx1
    have C := Lib.hid C
    have HAA := Lib.hid hA
    have NBB := Lib.hid NB
    clear rq hA NB hx1
    go_wp2_with (first | (rw [EW.out]) | (refine rwl_store TRv { zeroRv with er := 0 } w4.heap.size X4.out rfl rfl ?_; rw [HW5.out, HGR.out]))
    refine C.out.mono ?_; rintro en u1 ⟨rfl, d⟩
    have T := Lib.hid (T.out.grow HAA.out d NBB.out.1 NBB.out.2)
    have hcell : u1.cell? ⟨gr, 1, none⟩ = some (.int .u64 0) := rv_c15 T.out.box rfl
    have hfree : u1.frozen? ⟨gr, 1, none⟩ = false := gbx_fz T.out.box 1
    obtain ⟨y51, hw51⟩ : ∃ W, u1.setCell ⟨gr, 1, none⟩ (.int .u64 x1) = W := ⟨_, rfl⟩
    have T : Hid (Tr w g0 g gb gr y51 (⟨0, x1, 0, 0, none, 0, 0, none, 0, 0, none, 0, 0⟩ : Rv) [] [] [] b1 e1) := Lib.hid (by rw [← hw51]; exact T.out.put rfl T.out.ot T.out.og T.out.oa)
    have kb := T.out.rb
    have HWK := Lib.hid hw51
    clear d C hw51
    obtain ⟨A, n, k, rq, hA⟩ := T.out.rq
    have C := int_any g n k A b1 e1 y51 rq T.out.by' (by have := rq.r.1; have := T.out.len; omega)
    have NB := iR_by T.out.by' e1
    rw [show zz (sR b1 e1 top).1 = (iR b1 e1).1 from rfl, show (sR b1 e1 top).2.1 = (iR b1 e1).2.1 from rfl, show (sR b1 e1 top).2.2 = (iR b1 e1).2.2 from rfl] at C
    obtain ⟨⟨x2, b2, e2⟩, hx2⟩ : ∃ r, iR b1 e1 = r := ⟨_, rfl⟩
    rw [hx2] at C NB
    dsimp only at C NB
    have HX2 := Lib.hid hx2
    have C := Lib.hid C
    have HAA := Lib.hid hA
    have NBB := Lib.hid NB
    clear rq hA NB hx2
    go_wp2_with (rw [HWK.out])
    refine C.out.mono ?_; rintro en u2 ⟨rfl, d⟩
    have T := Lib.hid (T.out.grow HAA.out d NBB.out.1 NBB.out.2)
    have hcell : u2.cell? ⟨gr, 2, none⟩ = some (.int .i64 0) := rv_c15 T.out.box rfl
    have hfree : u2.frozen? ⟨gr, 2, none⟩ = false := gbx_fz T.out.box 2
    obtain ⟨y52, hw52⟩ : ∃ W, u2.setCell ⟨gr, 2, none⟩ (.int .i64 x2) = W := ⟨_, rfl⟩
    have T : Hid (Tr w g0 g gb gr y52 (⟨0, x1, x2, 0, none, 0, 0, none, 0, 0, none, 0, 0⟩ : Rv) [] [] [] b2 e2) := Lib.hid (by rw [← hw52]; exact T.out.put rfl T.out.ot T.out.og T.out.oa)
    have kb := T.out.rb
    have HWK := Lib.hid hw52
    clear d C hw52
    obtain ⟨A, n, k, rq, hA⟩ := T.out.rq
    have C := int_any g n k A b2 e2 y52 rq T.out.by' (by have := rq.r.1; have := T.out.len; omega)
    have NB := iR_by T.out.by' e2
    rw [show zz (sR b2 e2 top).1 = (iR b2 e2).1 from rfl, show (sR b2 e2 top).2.1 = (iR b2 e2).2.1 from rfl, show (sR b2 e2 top).2.2 = (iR b2 e2).2.2 from rfl] at C
    obtain ⟨⟨x3, b3, e3⟩, hx3⟩ : ∃ r, iR b2 e2 = r := ⟨_, rfl⟩
    rw [hx3] at C NB
    dsimp only at C NB
    have HX3 := Lib.hid hx3
    have C := Lib.hid C
    have HAA := Lib.hid hA
    have NBB := Lib.hid NB
    clear rq hA NB hx3
    go_wp2_with (rw [HWK.out])
    refine C.out.mono ?_; rintro en u3 ⟨rfl, d⟩
    have T := Lib.hid (T.out.grow HAA.out d NBB.out.1 NBB.out.2)
    have hcell : u3.cell? ⟨gr, 3, none⟩ = some (.int .i64 0) := rv_c15 T.out.box rfl
    have hfree : u3.frozen? ⟨gr, 3, none⟩ = false := gbx_fz T.out.box 3
    obtain ⟨y53, hw53⟩ : ∃ W, u3.setCell ⟨gr, 3, none⟩ (.int .i64 x3) = W := ⟨_, rfl⟩
    have T : Hid (Tr w g0 g gb gr y53 (⟨0, x1, x2, x3, none, 0, 0, none, 0, 0, none, 0, 0⟩ : Rv) [] [] [] b3 e3) := Lib.hid (by rw [← hw53]; exact T.out.put rfl T.out.ot T.out.og T.out.oa)
    have kb := T.out.rb
    have HWK := Lib.hid hw53
    clear d C hw53
    obtain ⟨A, n, k, rq, hA⟩ := T.out.rq
    have C := takelistT g gb n k A b3 e3 y53 rq T.out.by' (by have := rq.r.1; have := T.out.len; omega) (fun a ha => by have := hA a ha; have := T.out.o3; have := T.out.size; omega) T.out.rb (by have := T.out.o2; omega)
    have NB := nK_by tR_by T.out.by' e3
    obtain ⟨⟨l4, b4, e4⟩, hx4⟩ : ∃ r, nK Wt.tR b3 e3 = r := ⟨_, rfl⟩
    rw [hx4] at C NB
    dsimp only at C NB
    have HX4 := Lib.hid hx4
    have C := Lib.hid C
    have HAA := Lib.hid hA
    have NBB := Lib.hid NB
    clear rq hA NB hx4
    go_wp2_with (rw [HWK.out])
    refine C.out.mono ?_; rintro en u4 ⟨vv, rfl, ow, d⟩
    obtain ⟨Z4, z4, y4, rfl⟩ := gown_any ow
    have OW := Lib.hid (gown_low ow (by have := T.out.size; omega : gr + 1 ≤ y53.heap.size))
    have T := Lib.hid (T.out.grow HAA.out d NBB.out.1 NBB.out.2)
    have hcell : u4.cell? ⟨gr, 4, none⟩ = some (.slice none 0 0) := rv_c15 T.out.box rfl
    have hfree : u4.frozen? ⟨gr, 4, none⟩ = false := gbx_fz T.out.box 4
    obtain ⟨y54, hw54⟩ : ∃ W, u4.setCell ⟨gr, 4, none⟩ (.slice Z4 z4 y4) = W := ⟨_, rfl⟩
    have T : Hid (Tr w g0 g gb gr y54 (⟨0, x1, x2, x3, Z4, z4, y4, none, 0, 0, none, 0, 0⟩ : Rv) l4 [] [] b4 e4) := Lib.hid (by rw [← hw54]; exact T.out.put rfl OW.out T.out.og T.out.oa)
    have kb := T.out.rb
    have HWK := Lib.hid hw54
    clear d C hw54 ow
    obtain ⟨A, n, k, rq, hA⟩ := T.out.rq
    have C := takelist6 g gb n k A b4 e4 y54 rq T.out.by' (by have := rq.r.1; have := T.out.len; omega) (fun a ha => by have := hA a ha; have := T.out.o3; have := T.out.size; omega) T.out.rb (by have := T.out.o2; omega)
    have NB := nK_by gR_by T.out.by' e4
    obtain ⟨⟨l5, b5, e5⟩, hx5⟩ : ∃ r, nK Wt.gR b4 e4 = r := ⟨_, rfl⟩
    rw [hx5] at C NB
    dsimp only at C NB
    have HX5 := Lib.hid hx5
    have C := Lib.hid C
    have HAA := Lib.hid hA
    have NBB := Lib.hid NB
    clear rq hA NB hx5
    go_wp2_with (rw [HWK.out])
    refine C.out.mono ?_; rintro en u5 ⟨vv, rfl, ow, d⟩
    obtain ⟨Z5, z5, y5, rfl⟩ := gown_any ow
    have OW := Lib.hid (gown_low ow (by have := T.out.size; omega : gr + 1 ≤ y54.heap.size))
    have T := Lib.hid (T.out.grow HAA.out d NBB.out.1 NBB.out.2)
    have hcell : u5.cell? ⟨gr, 5, none⟩ = some (.slice none 0 0) := rv_c15 T.out.box rfl
    have hfree : u5.frozen? ⟨gr, 5, none⟩ = false := gbx_fz T.out.box 5
    obtain ⟨y55, hw55⟩ : ∃ W, u5.setCell ⟨gr, 5, none⟩ (.slice Z5 z5 y5) = W := ⟨_, rfl⟩
    have T : Hid (Tr w g0 g gb gr y55 (⟨0, x1, x2, x3, Z4, z4, y4, Z5, z5, y5, none, 0, 0⟩ : Rv) l4 l5 [] b5 e5) := Lib.hid (by rw [← hw55]; exact T.out.put rfl T.out.ot OW.out T.out.oa)
    have kb := T.out.rb
    have HWK := Lib.hid hw55
    clear d C hw55 ow
    obtain ⟨A, n, k, rq, hA⟩ := T.out.rq
    have C := takelist3 g gb n k A b5 e5 y55 rq T.out.by' (by have := rq.r.1; have := T.out.len; omega) (fun a ha => by have := hA a ha; have := T.out.o3; have := T.out.size; omega) T.out.rb (by have := T.out.o2; omega)
    have NB := nK_by aR_by T.out.by' e5
    obtain ⟨⟨l6, b6, e6⟩, hx6⟩ : ∃ r, nK Wt.aR b5 e5 = r := ⟨_, rfl⟩
    rw [hx6] at C NB
    dsimp only at C NB
    have HX6 := Lib.hid hx6
    have C := Lib.hid C
    have HAA := Lib.hid hA
    have NBB := Lib.hid NB
    clear rq hA NB hx6
    go_wp2_with (rw [HWK.out])
    refine C.out.mono ?_; rintro en u6 ⟨vv, rfl, ow, d⟩
    obtain ⟨Z6, z6, y6, rfl⟩ := gown_any ow
    have OW := Lib.hid (gown_low ow (by have := T.out.size; omega : gr + 1 ≤ y55.heap.size))
    have T := Lib.hid (T.out.grow HAA.out d NBB.out.1 NBB.out.2)
    have hcell : u6.cell? ⟨gr, 6, none⟩ = some (.slice none 0 0) := rv_c15 T.out.box rfl
    have hfree : u6.frozen? ⟨gr, 6, none⟩ = false := gbx_fz T.out.box 6
    obtain ⟨y56, hw56⟩ : ∃ W, u6.setCell ⟨gr, 6, none⟩ (.slice Z6 z6 y6) = W := ⟨_, rfl⟩
    have T : Hid (Tr w g0 g gb gr y56 (⟨0, x1, x2, x3, Z4, z4, y4, Z5, z5, y5, Z6, z6, y6⟩ : Rv) l4 l5 l6 b6 e6) := Lib.hid (by rw [← hw56]; exact T.out.put rfl T.out.ot T.out.og OW.out)
    have kb := T.out.rb
    have HWK := Lib.hid hw56
    clear d C hw56 ow
    obtain ⟨bL, hbL⟩ : ∃ b, b6 = b := ⟨_, rfl⟩
    obtain ⟨eL, heL⟩ : ∃ b, e6 = b := ⟨_, rfl⟩
    rw [hbL, heL] at T HX6
    have QE : Hid (qR bs = (⟨0, x1, x2, x3, l4, l5, l6⟩, bL, eL)) := Lib.hid (by unfold qR; rw [HR.out]; dsimp only; rw [if_pos rfl, HX1.out]; dsimp only; rw [HX2.out]; dsimp only; rw [HX3.out]; dsimp only; rw [HX4.out]; dsimp only; rw [HX5.out]; dsimp only; rw [HX6.out])
    clear hbL heL
    obtain ⟨A9, n9, k9, rq9, -⟩ := T.out.rq
    have DN := done_any g n9 k9 A9 bL eL y56 rq9 (by have := rq9.r.1; have := T.out.len; omega)
    obtain ⟨D, hD⟩ : ∃ D : Int, (if eL = 0 ∧ 0 < bL.length then (5 : Int) else eL) = D := ⟨_, rfl⟩
    rw [hD] at DN
    have DN := Lib.hid DN
    have YES : Hid (D = 0 → IsR bs (⟨0, x1, x2, x3, l4, l5, l6⟩ : Rw)) := Lib.hid (by
      intro h
      have := QY.out
      rw [QE.out] at this
      exact this (hD.trans h))
    have NOT : Hid (D ≠ 0 → ∀ d, ¬ IsR bs d) := Lib.hid (by
      intro h
      have := QN.out
      rw [QE.out] at this
      exact this (hD ▸ h))
    have BX := Lib.hid (gbx_rng T.out.box)
    have RES := Lib.hid T.out.res
    have TO := Lib.hid fun x => T.out.told (x := x)
    have kb := T.out.rb
    clear rq9 hD
    by_cases h0 : D = 0
    case neg =>
      have d1 : decide (D = 0) = false := decide_eq_false h0
      have d2 : (D == 0) = false := by simpa using h0
      have d3 : (D != 0) = true := by simpa using h0
      have NO := Lib.hid (NOT.out h0)
      clear h0
      go_wp2_with (rw [HWK.out])
      refine DN.out.mono ?_; rintro e9 w9 ⟨rfl, rfl⟩
      go_wp2_with (refine rwl_store TRv zeroRv g0 RES.out rfl rfl ?_)
      refine bodyPost_ret (rret TRv rfl _ _ g0 rfl rfl (gbx_set RES.out)) rfl ⟨zeroRv, zeroRw, 5, rfl, zrv_ok, zrv_in _, .inr ⟨NO.out, rfl, rfl⟩, ?_⟩
      rw [HG.out]; exact (TO.out zeroRv).2.2.2
    case pos =>
      subst h0
      have YE := Lib.hid (YES.out rfl)
      go_wp2_with (rw [HWK.out])
      refine DN.out.mono ?_; rintro e9 w9 ⟨rfl, rfl⟩
      go_wp2_with (first | ((with_reducible refine rwl_load TRv gr 0 BX.out ?_ ?_ ?_); rfl; rfl) | (refine rwl_store TRv (⟨0, x1, x2, x3, Z4, z4, y4, Z5, z5, y5, Z6, z6, y6⟩ : Rv) g0 RES.out rfl rfl ?_))
      refine bodyPost_ret (rret TRv rfl _ _ g0 rfl rfl (gbx_set RES.out)) rfl ⟨(⟨0, x1, x2, x3, Z4, z4, y4, Z5, z5, y5, Z6, z6, y6⟩ : Rv), (⟨0, x1, x2, x3, l4, l5, l6⟩ : Rw), 0, rfl, (TO.out (⟨0, x1, x2, x3, Z4, z4, y4, Z5, z5, y5, Z6, z6, y6⟩ : Rv)).2.1, (TO.out (⟨0, x1, x2, x3, Z4, z4, y4, Z5, z5, y5, Z6, z6, y6⟩ : Rv)).2.2.1, .inl ⟨YE.out, rfl⟩, ?_⟩
      rw [HG.out]; exact (TO.out (⟨0, x1, x2, x3, Z4, z4, y4, Z5, z5, y5, Z6, z6, y6⟩ : Rv)).2.2.2
end Go.Proofs.YtbmlpokkojhhjaaGreat.Wz
