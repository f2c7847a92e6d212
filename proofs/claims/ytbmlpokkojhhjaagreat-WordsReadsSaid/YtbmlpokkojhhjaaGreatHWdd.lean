/- The document's ReadReply (by genWdd.py). -/
import Derived.Test.YtbmlpokkojhhjaaGreatHWdc
import Derived.Test.YtbmlpokkojhhjaaGreatG32
namespace Go.Proofs.YtbmlpokkojhhjaaGreat.Wt
open Go.RowKit Go.Shelf
set_option linter.unusedVariables false
set_option linter.unusedSimpArgs false

theorem pR_head {bs bs1 : List Int} {v e1 : Int} (hr : sR bs 0 999 = (v, bs1, e1)) (h : ¬ (v = 0 ∧ e1 = 0)) : pR bs = (⟨v, 0, 0, 0, [], [], []⟩, bs1, e1) := by
  unfold pR
  rw [hr]
  rw [if_neg h]
theorem own_zero15 {α : Type} {E : Elt α} {te : TypeId} {W : World} {B n c : Nat} {A : Option Addr} {xs : List α} (h : E.Own te W B (.slice A n c) xs) : (A = none → c = 0) ∧ n ≤ c ∧ c ≤ maxLen := by
  refine ⟨fun e => ?_, gown_capn15 h⟩
  obtain ⟨A', c', e1, h1⟩ := gown_form h
  cases e1
  exact h1 e
/-- One more of a list is read. -/
theorem rL_next {α : Type} {f : List Int → Int → α × List Int × Int} {m k : Nat} {b b' : List Int} {e' : Int} {x : α} {xs : List α} {R : List α × List Int × Int} (hk : k < m) (hf : f b 0 = (x, b', e')) (h : R = (xs ++ (rL f (m - k) b 0).1, (rL f (m - k) b 0).2)) :
    R = ((xs ++ [x]) ++ (rL f (m - (k + 1)) b' e').1, (rL f (m - (k + 1)) b' e').2) := by
  have e : m - k = (m - (k + 1)) + 1 := by omega
  rw [e] at h
  have e2 : rL f ((m - (k + 1)) + 1) b 0 = (x :: (rL f (m - (k + 1)) b' e').1, (rL f (m - (k + 1)) b' e').2) := by
    conv => lhs; unfold rL
    rw [if_neg (by simp), hf]
  rw [e2] at h
  rw [h]
  simp
theorem rL_end {α : Type} {f : List Int → Int → α × List Int × Int} {m k : Nat} {b : List Int} {e : Int} {xs : List α} {R : List α × List Int × Int} (hk : m - k = 0 ∨ e ≠ 0) (h : R = (xs ++ (rL f (m - k) b e).1, (rL f (m - k) b e).2)) : R = (xs, b, e) := by
  have e2 : rL f (m - k) b e = ([], b, e) := by
    rcases hk with c | c
    · rw [c]; rfl
    · exact rL_stuck c
  rw [e2, List.append_nil] at h
  exact h
theorem none_own15 {k g : Nat} (h : (Value.slice none 0 0).ownBlock = some k) : k ≠ g := by cases h
theorem four15 {α : Type} {l : Array α} (h : l.size = 4) : ∃ a b c d, l = #[a, b, c, d] := by
  obtain ⟨l⟩ := l
  match l, h with
  | [a, b, c, d], _ => exact ⟨a, b, c, d, rfl⟩
theorem fill_tw15 (o : Tw) (z : Value) (h : z.cells.size = ETw.N) : Instr.fill (fun i => some (i * ETw.N, ETw.N)) ((Array.range (1 * ETw.N)).map (z.cells[· % z.cells.size]!)) [(0, .agg (ETw.cells o).toArray)] = some (ETw.cells o).toArray := by
  obtain ⟨a, b, c, d, hz⟩ := four15 (show z.cells.size = 4 from h)
  rw [hz]
  obtain ⟨p, q, n, ac⟩ := o
  kernel_rfl
/-- What is told at the end. -/
theorem Tp.told {w : World} {gc n0 : Nat} {A0 : Option Addr} {W : World} {v : Rv} {ts : List Tw} {gs as' bs : List Int} {e : Int} (h : Tp w gc n0 A0 W v ts gs as' bs e) {x : Rv} :
    ERv.Bx 40 (W.setRow w.heap.size (ERv.cells x).toArray) w.heap.size x ∧ v.ok ∧ v.In (W.setRow w.heap.size (ERv.cells x).toArray) ⟨v.er, v.nu, v.fi, v.le, ts, gs, as'⟩ ∧ Below w.heap.size w (W.setRow w.heap.size (ERv.cells x).toArray) := by
  obtain ⟨z, hz⟩ := h.res
  have keep : ∀ j, w.heap.size + 2 ≤ j → (W.setRow w.heap.size (ERv.cells x).toArray).heap[j]? = W.heap[j]? := fun j hj => setRow_other _ _ _ _ (by omega)
  have o1 := own_keep15 h.ot fun j a _ => keep j a
  have o2 := own_keep15 h.og fun j a _ => keep j a
  have o3 := own_keep15 h.oa fun j a _ => keep j a
  have c1 := own_zero15 o1
  have c2 := own_zero15 o2
  have c3 := own_zero15 o3
  exact ⟨gbx_set hz, ⟨by omega, by omega, by omega, c1.1, c2.1, c3.1, c1.2, c2.2, c3.2⟩, ⟨rfl, rfl, rfl, rfl, gown_rd o1, gown_rd o2, gown_rd o3⟩, below_row0 h.bel (Nat.le_refl _)⟩
set_option maxRecDepth 100000 in
set_option maxHeartbeats 64000000 in
/-- The document's ReadReply: what any bytes are read as. -/
theorem rrdR15 (A : Option Addr) (n cap : Nat) (bs : List Int) (w : World) (h : RdB w A n bs) (hy : By bs) (hn : n ≤ 20000) (hnc : n ≤ cap) : Calls Tryz.prog 8 #[.slice A n cap] w fun e w' =>
    ∃ (v : Rv) (r : Rw) (E : Int), e = .returned (.tuple #[.agg (ERv.cells v).toArray, .int .i64 E]) ∧ v.ok ∧ v.In w' r ∧ (IsR bs r ∧ E = 0 ∨ (∀ d, ¬ IsR bs d) ∧ r = zeroRw ∧ E = 5) ∧ Below w.heap.size w w' := by
  have hzr := zero_rv15
  have hzt := zero_tw15
  have NL := Lib.hid h.1
  have b1 : Below w.heap.size w (w.alloc (.cells (ERv.cells zeroRv).toArray 40)) := below_new w _
  obtain ⟨w2, hw2⟩ : ∃ W, (w.alloc (.cells (ERv.cells zeroRv).toArray 40)).alloc (.cells #[.slice A n cap, .int .i64 0] 63) = W := ⟨_, rfl⟩
  have b2 : Below w.heap.size w w2 := by rw [← hw2]; exact b1.alloc b1.size _
  have RQ : Rr w2 (w.heap.size + 1) A n cap bs 0 := ⟨by rw [← hw2]; exact heap_alloc2_new w _ _, h.below b2, hnc⟩
  have RZ : Hid (ERv.Bx 40 w2 w.heap.size zeroRv) := Lib.hid (by rw [← hw2]; exact gbx_below (gbx_new w zeroRv) (below_new _ _))
  have OLD : Hid (∀ a0, A = some a0 → 0 < n → a0.block < w.heap.size) := Lib.hid fun a0 ha h0 => by
    obtain ⟨b, o, e1, hc⟩ := h.2 h0
    have := World.block_lt_of_cell? w _ (hc 0 h0)
    rw [e1] at ha
    cases ha
    exact this
  have BY := Lib.hid hy
  have SM := Lib.hid (rsmall_any (w.heap.size + 1) n cap A bs 0 999 w2 RQ hy (by omega))
  have MB := sR_most hy 0 (m := 999) (by decide)
  have NB := Lib.hid (sR_by hy 0 999)
  have B2 := Lib.hid b2
  have HW2 := Lib.hid hw2
  obtain ⟨⟨v, bs1, e1⟩, hr⟩ : ∃ r, sR bs 0 999 = r := ⟨_, rfl⟩
  unfold SmallE at SM
  rw [hr] at SM MB NB
  dsimp only at SM MB NB
  obtain ⟨mb1, mb2⟩ := MB
  have HR := Lib.hid hr
  clear h hy hw2 b1 b2 RQ hr
  go_enter Tryz.func8, Tryz.ntmps8
  go_wp2_with (rw [HW2.out])
  refine SM.out.mono ?_; rintro en w3 ⟨rfl, d⟩
  have gr := d.2
  have hs3 : w.heap.size + 2 ≤ w3.heap.size := by
    have := gr.size
    have : w2.heap.size = w.heap.size + 2 := by rw [← HW2.out]; simp
    omega
  have B3 := Lib.hid (B2.out.grown gr B2.out.size (fun j hj => by cases hj; omega))
  have Z3 : Hid (ERv.Bx 40 w3 w.heap.size zeroRv) := Lib.hid ((gr.block _ (Array.getElem?_eq_some_iff.1 RZ.out).1 (by simp)).trans RZ.out)
  have R3 := Lib.hid d.1
  have X0 : Hid (ERv.Bx 40 (w3.alloc (.cells (ERv.cells zeroRv).toArray 40)) w3.heap.size zeroRv) := Lib.hid (gbx_new w3 _)
  obtain ⟨w4, hw4⟩ : ∃ W, (w3.alloc (.cells (ERv.cells zeroRv).toArray 40)).setRow w3.heap.size (ERv.cells (errV v)).toArray = W := ⟨_, rfl⟩
  have b4 : Below w3.heap.size w3 w4 := by rw [← hw4]; exact below_row0 (below_new _ _) (Nat.le_refl _)
  have x4 : ERv.Bx 40 w4 w3.heap.size (errV v) := by rw [← hw4]; exact gbx_set X0.out
  obtain ⟨gc, hgc⟩ : ∃ g, w3.heap.size = g := ⟨_, rfl⟩
  have HGC := Lib.hid hgc
  have T := Lib.hid (show Tp w gc n A w4 (errV v) [] [] [] bs1 e1 by
    rw [← hgc]
    obtain ⟨A', n', k', rq, hA'⟩ := R3.out
    refine ⟨⟨A', n', k', rq.below b4, fun a ha => ?_⟩, OLD.out, by rw [← NL.out]; exact NB.out.2, by omega, x4, ⟨zeroRv, gbx_below Z3.out b4⟩, B3.out.trans (b4.mono B3.out.size), NB.out.1, gown_nil _ _, gown_nil _ _, gown_nil _ _⟩
    obtain ⟨a, h1, h2⟩ := hA' a ha
    exact ⟨a, h1, h2⟩)
  have k0 : w4.cell? ⟨gc, 0, none⟩ = some (.int .i64 v) := by rw [← hgc]; exact rv_c15 x4 rfl
  have HW4 := Lib.hid hw4
  obtain ⟨A5, n5, c5, rq5, hA5⟩ := T.out.rq
  have kE := rq5.c1
  clear d gr hs3 hw4 b4 x4 RZ R3 Z3 B2 B3 OLD SM NB hgc rq5 hA5
  by_cases hv0 : v = 0
  case neg =>
    have e0 : (v == 0) = false := by simp [hv0]
    have PRE := Lib.hid (pR_head HR.out (fun c => hv0 c.1))
    clear hv0
    go_wp2_with (refine rwl_store TRv (errV v) w3.heap.size X0.out rfl rfl ?_; rw [HW4.out, HGC.out])
    obtain ⟨A9, n9, c9, rq, hA⟩ := T.out.rq
    have hn9 : n9 ≤ 20000 := by have h1 := rq.r.1; have h2 := T.out.len; omega
    obtain ⟨bL, hbL⟩ : ∃ x, bs1 = x := ⟨_, rfl⟩
    obtain ⟨eL, heL⟩ : ∃ x, e1 = x := ⟨_, rfl⟩
    have DN := Lib.hid (rdone_any (w.heap.size + 1) n9 c9 A9 bs1 e1 w4 rq (by omega))
    obtain ⟨D, hD⟩ : ∃ D, (if e1 = 0 ∧ 0 < (bs1).length then (5 : Int) else e1) = D := ⟨_, rfl⟩
    rw [hD] at DN
    have YES : Hid (D = 0 → IsR bs ⟨v, 0, 0, 0, [], [], []⟩) := Lib.hid fun h0 => by
      have e2 : (pR bs).2 = ([], 0) := by
        rw [PRE.out]
        rw [← hD] at h0
        by_cases c : e1 = 0 ∧ 0 < (bs1).length
        · rw [if_pos c] at h0; omega
        · rw [if_neg c] at h0
          have l0 : bs1 = [] := List.eq_nil_of_length_eq_zero (by omega)
          show (bs1, e1) = _
          rw [l0, h0]
      have := pR_back BY.out e2
      rw [PRE.out] at this
      exact this
    have NO : Hid (D ≠ 0 → ∀ d, ¬ IsR bs d) := Lib.hid fun h0 => pR_none (by
      rw [PRE.out]
      intro c
      have c1 : bs1 = [] := congrArg Prod.fst c
      have c2 : e1 = 0 := congrArg Prod.snd c
      apply h0
      rw [← hD, c1, c2]
      rfl)
    clear rq hn9 hA hD hbL heL
    skip
    refine DN.out.mono ?_; rintro en wd ⟨rfl, hwd⟩
    subst hwd
    by_cases d0 : D = 0
    case neg =>
      have dd : (D != 0) = true := by simp [d0]
      have NN := Lib.hid (NO.out d0)
      obtain ⟨z, hz⟩ := T.out.res
      have HZ := Lib.hid hz
      obtain ⟨Wz, hWz⟩ : ∃ W, w4.setRow w.heap.size (ERv.cells zeroRv).toArray = W := ⟨_, rfl⟩
      have TT := T.out.told (x := zeroRv)
      rw [hWz] at TT
      have TL := Lib.hid TT
      have HWz := Lib.hid hWz
      clear d0 hz hWz TT
      go_wp2_with (refine rwl_store TRv zeroRv w.heap.size HZ.out rfl rfl ?_; rw [HWz.out])
      (try simp only [Exit.inBlock, Exit.then])
      refine bodyPost_ret (rret TRv rfl _ Wz w.heap.size rfl rfl TL.out.1) rfl ?_
      exact ⟨zeroRv, zeroRw, 5, rfl, errV_ok 0, errV_in 0 Wz, .inr ⟨NN.out, rfl, rfl⟩, TL.out.2.2.2⟩
    subst d0
    have IS := Lib.hid (YES.out rfl)
    obtain ⟨z, hz⟩ := T.out.res
    have HZ := Lib.hid hz
    have XB := Lib.hid (gbx_rng T.out.box)
    obtain ⟨Wz, hWz⟩ : ∃ W, w4.setRow w.heap.size (ERv.cells (errV v)).toArray = W := ⟨_, rfl⟩
    have TT := T.out.told (x := (errV v))
    rw [hWz] at TT
    have TL := Lib.hid TT
    have HWz := Lib.hid hWz
    clear hz hWz TT
    go_wp2_with (first | ((with_reducible refine rwl_load TRv gc 0 XB.out ?_ ?_ ?_); rfl; rfl) | (refine rwl_store TRv (errV v) w.heap.size HZ.out rfl rfl ?_; rw [HWz.out]))
    (try simp only [Exit.inBlock, Exit.then])
    refine bodyPost_ret (rret TRv rfl _ Wz w.heap.size rfl rfl TL.out.1) rfl ?_
    exact ⟨(errV v), ⟨v, 0, 0, 0, [], [], []⟩, 0, rfl, TL.out.2.1, TL.out.2.2.1, .inl ⟨IS.out, rfl⟩, TL.out.2.2.2⟩
  subst hv0
  by_cases he0 : e1 = 0
  case neg =>
    have e0 : ((0 : Int) == 0) = true := by decide
    have e2 : (e1 == 0) = false := by simp [he0]
    have PRE := Lib.hid (pR_head HR.out (fun c => he0 c.2))
    clear he0
    go_wp2_with (refine rwl_store TRv (errV 0) w3.heap.size X0.out rfl rfl ?_; rw [HW4.out, HGC.out])
    obtain ⟨A9, n9, c9, rq, hA⟩ := T.out.rq
    have hn9 : n9 ≤ 20000 := by have h1 := rq.r.1; have h2 := T.out.len; omega
    obtain ⟨bL, hbL⟩ : ∃ x, bs1 = x := ⟨_, rfl⟩
    obtain ⟨eL, heL⟩ : ∃ x, e1 = x := ⟨_, rfl⟩
    have DN := Lib.hid (rdone_any (w.heap.size + 1) n9 c9 A9 bs1 e1 w4 rq (by omega))
    obtain ⟨D, hD⟩ : ∃ D, (if e1 = 0 ∧ 0 < (bs1).length then (5 : Int) else e1) = D := ⟨_, rfl⟩
    rw [hD] at DN
    have YES : Hid (D = 0 → IsR bs ⟨0, 0, 0, 0, [], [], []⟩) := Lib.hid fun h0 => by
      have e2 : (pR bs).2 = ([], 0) := by
        rw [PRE.out]
        rw [← hD] at h0
        by_cases c : e1 = 0 ∧ 0 < (bs1).length
        · rw [if_pos c] at h0; omega
        · rw [if_neg c] at h0
          have l0 : bs1 = [] := List.eq_nil_of_length_eq_zero (by omega)
          show (bs1, e1) = _
          rw [l0, h0]
      have := pR_back BY.out e2
      rw [PRE.out] at this
      exact this
    have NO : Hid (D ≠ 0 → ∀ d, ¬ IsR bs d) := Lib.hid fun h0 => pR_none (by
      rw [PRE.out]
      intro c
      have c1 : bs1 = [] := congrArg Prod.fst c
      have c2 : e1 = 0 := congrArg Prod.snd c
      apply h0
      rw [← hD, c1, c2]
      rfl)
    clear rq hn9 hA hD hbL heL
    skip
    refine DN.out.mono ?_; rintro en wd ⟨rfl, hwd⟩
    subst hwd
    by_cases d0 : D = 0
    case neg =>
      have dd : (D != 0) = true := by simp [d0]
      have NN := Lib.hid (NO.out d0)
      obtain ⟨z, hz⟩ := T.out.res
      have HZ := Lib.hid hz
      obtain ⟨Wz, hWz⟩ : ∃ W, w4.setRow w.heap.size (ERv.cells zeroRv).toArray = W := ⟨_, rfl⟩
      have TT := T.out.told (x := zeroRv)
      rw [hWz] at TT
      have TL := Lib.hid TT
      have HWz := Lib.hid hWz
      clear d0 hz hWz TT
      go_wp2_with (refine rwl_store TRv zeroRv w.heap.size HZ.out rfl rfl ?_; rw [HWz.out])
      (try simp only [Exit.inBlock, Exit.then])
      refine bodyPost_ret (rret TRv rfl _ Wz w.heap.size rfl rfl TL.out.1) rfl ?_
      exact ⟨zeroRv, zeroRw, 5, rfl, errV_ok 0, errV_in 0 Wz, .inr ⟨NN.out, rfl, rfl⟩, TL.out.2.2.2⟩
    subst d0
    have IS := Lib.hid (YES.out rfl)
    obtain ⟨z, hz⟩ := T.out.res
    have HZ := Lib.hid hz
    have XB := Lib.hid (gbx_rng T.out.box)
    obtain ⟨Wz, hWz⟩ : ∃ W, w4.setRow w.heap.size (ERv.cells (errV 0)).toArray = W := ⟨_, rfl⟩
    have TT := T.out.told (x := (errV 0))
    rw [hWz] at TT
    have TL := Lib.hid TT
    have HWz := Lib.hid hWz
    clear hz hWz TT
    go_wp2_with (first | ((with_reducible refine rwl_load TRv gc 0 XB.out ?_ ?_ ?_); rfl; rfl) | (refine rwl_store TRv (errV 0) w.heap.size HZ.out rfl rfl ?_; rw [HWz.out]))
    (try simp only [Exit.inBlock, Exit.then])
    refine bodyPost_ret (rret TRv rfl _ Wz w.heap.size rfl rfl TL.out.1) rfl ?_
    exact ⟨(errV 0), ⟨0, 0, 0, 0, [], [], []⟩, 0, rfl, TL.out.2.1, TL.out.2.2.1, .inl ⟨IS.out, rfl⟩, TL.out.2.2.2⟩
  subst he0
  obtain ⟨A9, n9, c9, rq, hA⟩ := T.out.rq
  have hn9 : n9 ≤ 20000 := by have h1 := rq.r.1; have h2 := T.out.len; omega
  have BYb := T.out.by'
  have SM := Lib.hid (rnatr_any (w.heap.size + 1) n9 c9 A9 bs1 0 _ rq BYb (by omega))
  have MB := sR_bd BYb 0 top
  have NB := sR_by BYb 0 top
  obtain ⟨⟨x1, b1, e1⟩, hr⟩ : ∃ r, sR bs1 0 top = r := ⟨_, rfl⟩
  unfold SmallE at SM
  rw [hr] at SM MB NB
  dsimp only at SM MB NB
  obtain ⟨ma1, mb1⟩ := MB
  have HR1 := Lib.hid hr
  clear rq hn9 BYb hr
  go_wp2_with (refine rwl_store TRv (errV 0) w3.heap.size X0.out rfl rfl ?_; rw [HW4.out, HGC.out])
  clear k0 kE X0 HW4 HGC
  refine SM.out.mono ?_; rintro en W1 ⟨rfl, d⟩
  replace T := Lib.hid (show Tp w gc n A W1 ⟨0, 0, 0, 0, none, 0, 0, none, 0, 0, none, 0, 0⟩ [] [] [] b1 e1 from T.out.call hA d NB.2 NB.1)
  clear d SM hA NB
  have hcell : W1.cell? ⟨gc, 1, none⟩ = some (.int .u64 0) := rv_c15 T.out.box rfl
  have hfree : W1.frozen? ⟨gc, 1, none⟩ = false := gbx_fz T.out.box _
  replace T := Lib.hid (show Tp w gc n A (W1.setCell ⟨gc, 1, none⟩ (.int .u64 x1)) ⟨0, x1, 0, 0, none, 0, 0, none, 0, 0, none, 0, 0⟩ [] [] [] b1 e1 from T.out.cell (v' := ⟨0, x1, 0, 0, none, 0, 0, none, 0, 0, none, 0, 0⟩) (j := 1) (u := .int .u64 x1) rfl T.out.ot T.out.og T.out.oa)
  obtain ⟨A9, n9, c9, rq, hA⟩ := T.out.rq
  have hn9 : n9 ≤ 20000 := by have h1 := rq.r.1; have h2 := T.out.len; omega
  have BYb := T.out.by'
  have SM := Lib.hid (rintr_any (w.heap.size + 1) n9 c9 A9 b1 e1 _ rq BYb (by omega))
  have MB := iR_fits BYb e1
  have NB := sR_by BYb e1 top
  obtain ⟨⟨x2, b2, e2⟩, hr⟩ : ∃ r, iR b1 e1 = r := ⟨_, rfl⟩
  have r1 : zz (sR b1 e1 top).1 = x2 := congrArg Prod.fst hr
  have r2 : (sR b1 e1 top).2.1 = b2 := congrArg (fun r => r.2.1) hr
  have r3 : (sR b1 e1 top).2.2 = e2 := congrArg (fun r => r.2.2) hr
  unfold IntE at SM
  rw [r1, r2, r3] at SM
  rw [r2] at NB
  clear r1 r2 r3 MB
  have HR2 := Lib.hid hr
  clear rq hn9 BYb hr
  go_wp2_with fail
  clear hcell hfree
  refine SM.out.mono ?_; rintro en W2 ⟨rfl, d⟩
  replace T := Lib.hid (show Tp w gc n A W2 ⟨0, x1, 0, 0, none, 0, 0, none, 0, 0, none, 0, 0⟩ [] [] [] b2 e2 from T.out.call hA d NB.2 NB.1)
  clear d SM hA NB
  have hcell : W2.cell? ⟨gc, 2, none⟩ = some (.int .i64 0) := rv_c15 T.out.box rfl
  have hfree : W2.frozen? ⟨gc, 2, none⟩ = false := gbx_fz T.out.box _
  replace T := Lib.hid (show Tp w gc n A (W2.setCell ⟨gc, 2, none⟩ (.int .i64 x2)) ⟨0, x1, x2, 0, none, 0, 0, none, 0, 0, none, 0, 0⟩ [] [] [] b2 e2 from T.out.cell (v' := ⟨0, x1, x2, 0, none, 0, 0, none, 0, 0, none, 0, 0⟩) (j := 2) (u := .int .i64 x2) rfl T.out.ot T.out.og T.out.oa)
  obtain ⟨A9, n9, c9, rq, hA⟩ := T.out.rq
  have hn9 : n9 ≤ 20000 := by have h1 := rq.r.1; have h2 := T.out.len; omega
  have BYb := T.out.by'
  have SM := Lib.hid (rintr_any (w.heap.size + 1) n9 c9 A9 b2 e2 _ rq BYb (by omega))
  have MB := iR_fits BYb e2
  have NB := sR_by BYb e2 top
  obtain ⟨⟨x3, b3, e3⟩, hr⟩ : ∃ r, iR b2 e2 = r := ⟨_, rfl⟩
  have r1 : zz (sR b2 e2 top).1 = x3 := congrArg Prod.fst hr
  have r2 : (sR b2 e2 top).2.1 = b3 := congrArg (fun r => r.2.1) hr
  have r3 : (sR b2 e2 top).2.2 = e3 := congrArg (fun r => r.2.2) hr
  unfold IntE at SM
  rw [r1, r2, r3] at SM
  rw [r2] at NB
  clear r1 r2 r3 MB
  have HR3 := Lib.hid hr
  clear rq hn9 BYb hr
  go_wp2_with fail
  clear hcell hfree
  refine SM.out.mono ?_; rintro en W3 ⟨rfl, d⟩
  replace T := Lib.hid (show Tp w gc n A W3 ⟨0, x1, x2, 0, none, 0, 0, none, 0, 0, none, 0, 0⟩ [] [] [] b3 e3 from T.out.call hA d NB.2 NB.1)
  clear d SM hA NB
  have hcell : W3.cell? ⟨gc, 3, none⟩ = some (.int .i64 0) := rv_c15 T.out.box rfl
  have hfree : W3.frozen? ⟨gc, 3, none⟩ = false := gbx_fz T.out.box _
  replace T := Lib.hid (show Tp w gc n A (W3.setCell ⟨gc, 3, none⟩ (.int .i64 x3)) ⟨0, x1, x2, x3, none, 0, 0, none, 0, 0, none, 0, 0⟩ [] [] [] b3 e3 from T.out.cell (v' := ⟨0, x1, x2, x3, none, 0, 0, none, 0, 0, none, 0, 0⟩) (j := 3) (u := .int .i64 x3) rfl T.out.ot T.out.og T.out.oa)
  obtain ⟨A9, n9, c9, rq, hA⟩ := T.out.rq
  have hn9 : n9 ≤ 20000 := by have h1 := rq.r.1; have h2 := T.out.len; omega
  have BYb := T.out.by'
  have SM := Lib.hid (rsmall_any (w.heap.size + 1) n9 c9 A9 b3 e3 4000 _ rq BYb (by omega))
  have MB := sR_most BYb e3 (m := 4000) (by decide)
  have NB := sR_by BYb e3 4000
  obtain ⟨⟨x4, b4, e4⟩, hr⟩ : ∃ r, sR b3 e3 4000 = r := ⟨_, rfl⟩
  unfold SmallE at SM
  rw [hr] at SM MB NB
  dsimp only at SM MB NB
  obtain ⟨ma4, mb4⟩ := MB
  have HR4 := Lib.hid hr
  clear rq hn9 BYb hr
  go_wp2_with fail
  clear hcell hfree
  refine SM.out.mono ?_; rintro en W4 ⟨rfl, d⟩
  replace T := Lib.hid (show Tp w gc n A W4 ⟨0, x1, x2, x3, none, 0, 0, none, 0, 0, none, 0, 0⟩ [] [] [] b4 e4 from T.out.call hA d NB.2 NB.1)
  clear d SM hA NB
  obtain ⟨m4, hm⟩ : ∃ k : Nat, x4 = (k : Int) := ⟨x4.toNat, by omega⟩
  subst hm
  have M4 : m4 ≤ 4000 := by omega
  go_wp2_with fail
  go_loopw [7] (fun i wr => ∃ (k : Nat) (Z1 : Option Addr) (z1 y1 : Nat) (ts : List Tw) (b : List Int) (e : Int), k ≤ m4 ∧ i = .int .u64 k ∧ Tp w gc n A wr ⟨0, x1, x2, x3, Z1, z1, y1, none, 0, 0, none, 0, 0⟩ ts [] [] b e ∧ rL tR m4 b4 e4 = (ts ++ (rL tR (m4 - k) b e).1, (rL tR (m4 - k) b e).2) ∧ ts.length = k) (fun i _ => m4 - (intOf i).toNat)
  case atStart => exact ⟨0, none, 0, 0, [], _, _, Nat.zero_le _, rfl, T.out, by simp, rfl⟩
  case round =>
    obtain ⟨k, Z1, z1, y1, ts, b, e, hk, rfl, tp, inv, tl⟩ := hrel
    replace T := Lib.hid tp
    have INV := Lib.hid inv
    have TL := Lib.hid tl
    clear tp inv tl
    obtain ⟨A5, n5, c5, rq5, hA5⟩ := T.out.rq
    have kE := rq5.c1
    clear rq5 hA5
    by_cases hlt : k < m4
    case neg =>
      have NX1 : Hid (rL tR m4 b4 e4 = (ts, b, e)) := Lib.hid (rL_end (.inl (by omega)) INV.out)
      have dk : decide ((k : Int) < (m4 : Int)) = false := decide_eq_false (by omega)
      clear INV TL
      obtain ⟨A9, n9, c9, rq, hA⟩ := T.out.rq
      have hn9 : n9 ≤ 20000 := by have h1 := rq.r.1; have h2 := T.out.len; omega
      have BYb := T.out.by'
      have SM := Lib.hid (rsmall_any (w.heap.size + 1) n9 c9 A9 b e 4000 _ rq BYb (by omega))
      have MB := sR_most BYb e (m := 4000) (by decide)
      have NB := sR_by BYb e 4000
      obtain ⟨⟨x5, b5, e5⟩, hr⟩ : ∃ r, sR b e 4000 = r := ⟨_, rfl⟩
      unfold SmallE at SM
      rw [hr] at SM MB NB
      dsimp only at SM MB NB
      obtain ⟨ma5, mb5⟩ := MB
      have HR5 := Lib.hid hr
      clear rq hn9 BYb hr
      go_wp2_with fail
      clear kE
      refine SM.out.mono ?_; rintro en W5 ⟨rfl, d⟩
      replace T := Lib.hid (show Tp w gc n A W5 ⟨0, x1, x2, x3, Z1, z1, y1, none, 0, 0, none, 0, 0⟩ ts [] [] b5 e5 from T.out.call hA d NB.2 NB.1)
      clear d SM hA NB
      obtain ⟨m5, hm⟩ : ∃ k : Nat, x5 = (k : Int) := ⟨x5.toNat, by omega⟩
      subst hm
      have M4 : m5 ≤ 4000 := by omega
      go_wp2_with fail
      go_loopw [9] (fun i wr => ∃ (k : Nat) (Z2 : Option Addr) (z2 y2 : Nat) (gs : List Int) (b : List Int) (e : Int), k ≤ m5 ∧ i = .int .u64 k ∧ Tp w gc n A wr ⟨0, x1, x2, x3, Z1, z1, y1, Z2, z2, y2, none, 0, 0⟩ ts gs [] b e ∧ rL gR m5 b5 e5 = (gs ++ (rL gR (m5 - k) b e).1, (rL gR (m5 - k) b e).2) ∧ gs.length = k) (fun i _ => m5 - (intOf i).toNat)
      case atStart => exact ⟨0, none, 0, 0, [], _, _, Nat.zero_le _, rfl, T.out, by simp, rfl⟩
      case round =>
        obtain ⟨k, Z2, z2, y2, gs, b, e, hk, rfl, tp, inv, tl⟩ := hrel
        replace T := Lib.hid tp
        have INV := Lib.hid inv
        have TL := Lib.hid tl
        clear tp inv tl
        obtain ⟨A5, n5, c5, rq5, hA5⟩ := T.out.rq
        have kE := rq5.c1
        clear rq5 hA5
        by_cases hlt : k < m5
        case neg =>
          have NX2 : Hid (rL gR m5 b5 e5 = (gs, b, e)) := Lib.hid (rL_end (.inl (by omega)) INV.out)
          have dk : decide ((k : Int) < (m5 : Int)) = false := decide_eq_false (by omega)
          clear INV TL
          obtain ⟨A9, n9, c9, rq, hA⟩ := T.out.rq
          have hn9 : n9 ≤ 20000 := by have h1 := rq.r.1; have h2 := T.out.len; omega
          have BYb := T.out.by'
          have SM := Lib.hid (rsmall_any (w.heap.size + 1) n9 c9 A9 b e 4000 _ rq BYb (by omega))
          have MB := sR_most BYb e (m := 4000) (by decide)
          have NB := sR_by BYb e 4000
          obtain ⟨⟨x6, b6, e6⟩, hr⟩ : ∃ r, sR b e 4000 = r := ⟨_, rfl⟩
          unfold SmallE at SM
          rw [hr] at SM MB NB
          dsimp only at SM MB NB
          obtain ⟨ma6, mb6⟩ := MB
          have HR6 := Lib.hid hr
          clear rq hn9 BYb hr
          go_wp2_with fail
          clear kE
          refine SM.out.mono ?_; rintro en W6 ⟨rfl, d⟩
          replace T := Lib.hid (show Tp w gc n A W6 ⟨0, x1, x2, x3, Z1, z1, y1, Z2, z2, y2, none, 0, 0⟩ ts gs [] b6 e6 from T.out.call hA d NB.2 NB.1)
          clear d SM hA NB
          obtain ⟨m6, hm⟩ : ∃ k : Nat, x6 = (k : Int) := ⟨x6.toNat, by omega⟩
          subst hm
          have M4 : m6 ≤ 4000 := by omega
          go_wp2_with fail
          go_loopw [10] (fun i wr => ∃ (k : Nat) (Z3 : Option Addr) (z3 y3 : Nat) (as1 : List Int) (b : List Int) (e : Int), k ≤ m6 ∧ i = .int .u64 k ∧ Tp w gc n A wr ⟨0, x1, x2, x3, Z1, z1, y1, Z2, z2, y2, Z3, z3, y3⟩ ts gs as1 b e ∧ rL aR m6 b6 e6 = (as1 ++ (rL aR (m6 - k) b e).1, (rL aR (m6 - k) b e).2) ∧ as1.length = k) (fun i _ => m6 - (intOf i).toNat)
          case atStart => exact ⟨0, none, 0, 0, [], _, _, Nat.zero_le _, rfl, T.out, by simp, rfl⟩
          case round =>
            obtain ⟨k, Z3, z3, y3, as1, b, e, hk, rfl, tp, inv, tl⟩ := hrel
            replace T := Lib.hid tp
            have INV := Lib.hid inv
            have TL := Lib.hid tl
            clear tp inv tl
            obtain ⟨A5, n5, c5, rq5, hA5⟩ := T.out.rq
            have kE := rq5.c1
            clear rq5 hA5
            by_cases hlt : k < m6
            case neg =>
              have NX3 : Hid (rL aR m6 b6 e6 = (as1, b, e)) := Lib.hid (rL_end (.inl (by omega)) INV.out)
              have dk : decide ((k : Int) < (m6 : Int)) = false := decide_eq_false (by omega)
              clear INV TL
              have PRE : Hid (pR bs = (⟨0, x1, x2, x3, ts, gs, as1⟩, b, e)) := Lib.hid (by
                unfold pR
                rw [HR.out]
                rw [if_pos ⟨rfl, rfl⟩]
                simp only [nL, HR1.out, HR2.out, HR3.out, HR4.out, HR5.out, HR6.out, Int.toNat_natCast, NX1.out, NX2.out, NX3.out])
              clear NX1 NX2 NX3 HR1 HR2 HR3 HR4 HR5 HR6
              obtain ⟨A9, n9, c9, rq, hA⟩ := T.out.rq
              have hn9 : n9 ≤ 20000 := by have h1 := rq.r.1; have h2 := T.out.len; omega
              obtain ⟨bL, hbL⟩ : ∃ x, b = x := ⟨_, rfl⟩
              obtain ⟨eL, heL⟩ : ∃ x, e = x := ⟨_, rfl⟩
              have DN := Lib.hid (rdone_any (w.heap.size + 1) n9 c9 A9 b e wr rq (by omega))
              obtain ⟨D, hD⟩ : ∃ D, (if e = 0 ∧ 0 < (b).length then (5 : Int) else e) = D := ⟨_, rfl⟩
              rw [hD] at DN
              have YES : Hid (D = 0 → IsR bs ⟨0, x1, x2, x3, ts, gs, as1⟩) := Lib.hid fun h0 => by
                have e2 : (pR bs).2 = ([], 0) := by
                  rw [PRE.out]
                  rw [← hD] at h0
                  by_cases c : e = 0 ∧ 0 < (b).length
                  · rw [if_pos c] at h0; omega
                  · rw [if_neg c] at h0
                    have l0 : b = [] := List.eq_nil_of_length_eq_zero (by omega)
                    show (b, e) = _
                    rw [l0, h0]
                have := pR_back BY.out e2
                rw [PRE.out] at this
                exact this
              have NO : Hid (D ≠ 0 → ∀ d, ¬ IsR bs d) := Lib.hid fun h0 => pR_none (by
                rw [PRE.out]
                intro c
                have c1 : b = [] := congrArg Prod.fst c
                have c2 : e = 0 := congrArg Prod.snd c
                apply h0
                rw [← hD, c1, c2]
                rfl)
              clear rq hn9 hA hD hbL heL
              go_wp2_with fail
              refine DN.out.mono ?_; rintro en wd ⟨rfl, hwd⟩
              subst hwd
              by_cases d0 : D = 0
              case neg =>
                have dd : (D != 0) = true := by simp [d0]
                have NN := Lib.hid (NO.out d0)
                obtain ⟨z, hz⟩ := T.out.res
                have HZ := Lib.hid hz
                obtain ⟨Wz, hWz⟩ : ∃ W, wr.setRow w.heap.size (ERv.cells zeroRv).toArray = W := ⟨_, rfl⟩
                have TT := T.out.told (x := zeroRv)
                rw [hWz] at TT
                have TL := Lib.hid TT
                have HWz := Lib.hid hWz
                clear d0 hz hWz TT
                go_wp2_with (refine rwl_store TRv zeroRv w.heap.size HZ.out rfl rfl ?_; rw [HWz.out])
                (try simp only [Exit.inBlock, Exit.then])
                refine bodyPost_ret (rret TRv rfl _ Wz w.heap.size rfl rfl TL.out.1) rfl ?_
                exact ⟨zeroRv, zeroRw, 5, rfl, errV_ok 0, errV_in 0 Wz, .inr ⟨NN.out, rfl, rfl⟩, TL.out.2.2.2⟩
              subst d0
              have IS := Lib.hid (YES.out rfl)
              obtain ⟨z, hz⟩ := T.out.res
              have HZ := Lib.hid hz
              have XB := Lib.hid (gbx_rng T.out.box)
              obtain ⟨Wz, hWz⟩ : ∃ W, wr.setRow w.heap.size (ERv.cells (⟨0, x1, x2, x3, Z1, z1, y1, Z2, z2, y2, Z3, z3, y3⟩ : Rv)).toArray = W := ⟨_, rfl⟩
              have TT := T.out.told (x := (⟨0, x1, x2, x3, Z1, z1, y1, Z2, z2, y2, Z3, z3, y3⟩ : Rv))
              rw [hWz] at TT
              have TL := Lib.hid TT
              have HWz := Lib.hid hWz
              clear hz hWz TT
              go_wp2_with (first | ((with_reducible refine rwl_load TRv gc 0 XB.out ?_ ?_ ?_); rfl; rfl) | (refine rwl_store TRv (⟨0, x1, x2, x3, Z1, z1, y1, Z2, z2, y2, Z3, z3, y3⟩ : Rv) w.heap.size HZ.out rfl rfl ?_; rw [HWz.out]))
              (try simp only [Exit.inBlock, Exit.then])
              refine bodyPost_ret (rret TRv rfl _ Wz w.heap.size rfl rfl TL.out.1) rfl ?_
              exact ⟨(⟨0, x1, x2, x3, Z1, z1, y1, Z2, z2, y2, Z3, z3, y3⟩ : Rv), ⟨0, x1, x2, x3, ts, gs, as1⟩, 0, rfl, TL.out.2.1, TL.out.2.2.1, .inl ⟨IS.out, rfl⟩, TL.out.2.2.2⟩
            have dk : decide ((k : Int) < (m6 : Int)) = true := decide_eq_true (by omega)
            by_cases he : e = 0
            case neg =>
              have NX3 : Hid (rL aR m6 b6 e6 = (as1, b, e)) := Lib.hid (rL_end (.inr he) INV.out)
              have e0 : (e == 0) = false := by simp [he]
              clear INV TL
              have PRE : Hid (pR bs = (⟨0, x1, x2, x3, ts, gs, as1⟩, b, e)) := Lib.hid (by
                unfold pR
                rw [HR.out]
                rw [if_pos ⟨rfl, rfl⟩]
                simp only [nL, HR1.out, HR2.out, HR3.out, HR4.out, HR5.out, HR6.out, Int.toNat_natCast, NX1.out, NX2.out, NX3.out])
              clear NX1 NX2 NX3 HR1 HR2 HR3 HR4 HR5 HR6
              obtain ⟨A9, n9, c9, rq, hA⟩ := T.out.rq
              have hn9 : n9 ≤ 20000 := by have h1 := rq.r.1; have h2 := T.out.len; omega
              obtain ⟨bL, hbL⟩ : ∃ x, b = x := ⟨_, rfl⟩
              obtain ⟨eL, heL⟩ : ∃ x, e = x := ⟨_, rfl⟩
              have DN := Lib.hid (rdone_any (w.heap.size + 1) n9 c9 A9 b e wr rq (by omega))
              obtain ⟨D, hD⟩ : ∃ D, (if e = 0 ∧ 0 < (b).length then (5 : Int) else e) = D := ⟨_, rfl⟩
              rw [hD] at DN
              have YES : Hid (D = 0 → IsR bs ⟨0, x1, x2, x3, ts, gs, as1⟩) := Lib.hid fun h0 => by
                have e2 : (pR bs).2 = ([], 0) := by
                  rw [PRE.out]
                  rw [← hD] at h0
                  by_cases c : e = 0 ∧ 0 < (b).length
                  · rw [if_pos c] at h0; omega
                  · rw [if_neg c] at h0
                    have l0 : b = [] := List.eq_nil_of_length_eq_zero (by omega)
                    show (b, e) = _
                    rw [l0, h0]
                have := pR_back BY.out e2
                rw [PRE.out] at this
                exact this
              have NO : Hid (D ≠ 0 → ∀ d, ¬ IsR bs d) := Lib.hid fun h0 => pR_none (by
                rw [PRE.out]
                intro c
                have c1 : b = [] := congrArg Prod.fst c
                have c2 : e = 0 := congrArg Prod.snd c
                apply h0
                rw [← hD, c1, c2]
                rfl)
              clear rq hn9 hA hD hbL heL
              go_wp2_with fail
              refine DN.out.mono ?_; rintro en wd ⟨rfl, hwd⟩
              subst hwd
              by_cases d0 : D = 0
              case neg =>
                have dd : (D != 0) = true := by simp [d0]
                have NN := Lib.hid (NO.out d0)
                obtain ⟨z, hz⟩ := T.out.res
                have HZ := Lib.hid hz
                obtain ⟨Wz, hWz⟩ : ∃ W, wr.setRow w.heap.size (ERv.cells zeroRv).toArray = W := ⟨_, rfl⟩
                have TT := T.out.told (x := zeroRv)
                rw [hWz] at TT
                have TL := Lib.hid TT
                have HWz := Lib.hid hWz
                clear d0 hz hWz TT
                go_wp2_with (refine rwl_store TRv zeroRv w.heap.size HZ.out rfl rfl ?_; rw [HWz.out])
                (try simp only [Exit.inBlock, Exit.then])
                refine bodyPost_ret (rret TRv rfl _ Wz w.heap.size rfl rfl TL.out.1) rfl ?_
                exact ⟨zeroRv, zeroRw, 5, rfl, errV_ok 0, errV_in 0 Wz, .inr ⟨NN.out, rfl, rfl⟩, TL.out.2.2.2⟩
              subst d0
              have IS := Lib.hid (YES.out rfl)
              obtain ⟨z, hz⟩ := T.out.res
              have HZ := Lib.hid hz
              have XB := Lib.hid (gbx_rng T.out.box)
              obtain ⟨Wz, hWz⟩ : ∃ W, wr.setRow w.heap.size (ERv.cells (⟨0, x1, x2, x3, Z1, z1, y1, Z2, z2, y2, Z3, z3, y3⟩ : Rv)).toArray = W := ⟨_, rfl⟩
              have TT := T.out.told (x := (⟨0, x1, x2, x3, Z1, z1, y1, Z2, z2, y2, Z3, z3, y3⟩ : Rv))
              rw [hWz] at TT
              have TL := Lib.hid TT
              have HWz := Lib.hid hWz
              clear hz hWz TT
              go_wp2_with (first | ((with_reducible refine rwl_load TRv gc 0 XB.out ?_ ?_ ?_); rfl; rfl) | (refine rwl_store TRv (⟨0, x1, x2, x3, Z1, z1, y1, Z2, z2, y2, Z3, z3, y3⟩ : Rv) w.heap.size HZ.out rfl rfl ?_; rw [HWz.out]))
              (try simp only [Exit.inBlock, Exit.then])
              refine bodyPost_ret (rret TRv rfl _ Wz w.heap.size rfl rfl TL.out.1) rfl ?_
              exact ⟨(⟨0, x1, x2, x3, Z1, z1, y1, Z2, z2, y2, Z3, z3, y3⟩ : Rv), ⟨0, x1, x2, x3, ts, gs, as1⟩, 0, rfl, TL.out.2.1, TL.out.2.2.1, .inl ⟨IS.out, rfl⟩, TL.out.2.2.2⟩
            subst he
            have e0 : ((0 : Int) == 0) = true := by decide
            have wk : IntKind.u64.wrap ((k : Int) + 1) = (k : Int) + 1 := by simp [IntKind.wrap, IntKind.bits, IntKind.signed]; omega
            go_wp2_with fail
            clear kE dk e0
            refine wp_region_held_drew (S := fun _ => True) (by kernel_rfl) trivial (fun hH => ?_)
            replace T := Lib.hid (show Tp w gc n A wr.drew ⟨0, x1, x2, x3, Z1, z1, y1, Z2, z2, y2, Z3, z3, y3⟩ ts gs as1 b 0 from T.out.below (Below.refl _ _).drew)
            generalize wr.drew = wd at T ⊢
            obtain ⟨A9, n9, c9, rq, hA⟩ := T.out.rq
            have hn9 : n9 ≤ 20000 := by have h1 := rq.r.1; have h2 := T.out.len; omega
            have BYb := T.out.by'
            have SM := Lib.hid (rsmall_any (w.heap.size + 1) n9 c9 A9 b 0 4294967295 wd rq BYb (by omega))
            have MB := sR_most BYb 0 (m := 4294967295) (by decide)
            have NB := sR_by BYb 0 4294967295
            obtain ⟨⟨x7, b7, e7⟩, hr⟩ : ∃ r, sR b 0 4294967295 = r := ⟨_, rfl⟩
            unfold SmallE at SM
            rw [hr] at SM MB NB
            dsimp only at SM MB NB
            obtain ⟨ma7, mb7⟩ := MB
            have NI := Lib.hid (rL_next hlt (show aR b 0 = (x7, b7, e7) from hr) INV.out)
            have HA := Lib.hid hA
            have HNB := Lib.hid NB
            clear rq hn9 BYb hr hA NB
            have LT : Hid (as1.length + 1 ≤ 100000) := Lib.hid (by have := TL.out; omega)
            have wu : IntKind.u32.wrap x7 = x7 := by simp [IntKind.wrap, IntKind.bits, IntKind.signed]; omega
            refine wpAnyH_take (i := 0) (v := .pointer (some ⟨gc, 6, none⟩)) rfl (by kernel_rfl) (by kernel_rfl) (by kernel_rfl) (fun _ _ _ h => h) (.inl ⟨by rfl, ?_⟩) (by assumption) ?_
            · intro W hW; go_simp
            try simp only [List.getElem_toArray, List.getElem_cons_zero, Act.put, List.setIfInBounds_toArray, List.set_cons_zero, List.set_cons_succ]
            refine wpAnyH_take (i := 2) (v := .pointer (some ⟨w.heap.size + 1, 0, none⟩)) rfl (by kernel_rfl) (by kernel_rfl) (by kernel_rfl) (fun _ _ _ h => h) (.inl ⟨by rfl, ?_⟩) (by assumption) ?_
            · intro W hW; go_simp
            try simp only [List.getElem_toArray, List.getElem_cons_zero, List.getElem_cons_succ, Act.put, List.setIfInBounds_toArray, List.set_cons_zero, List.set_cons_succ]
            refine wpAnyH_ready (rs := [1, 3]) (by decide +kernel) (by simp) (AllReadyH.cons rfl (fun KQ hK => ?_) (AllReadyH.cons rfl (fun KQ hK => ?_) AllReadyH.nil))
            · skip
              have hcL : wd.cell? ⟨gc, 6, none⟩ = some (.slice Z3 z3 y3) := rv_c15 T.out.box rfl
              go_simp
              refine hK.out _ _ trivial (fun _ => ?_)
              clear hK hcL
              try simp only [List.setIfInBounds_toArray, List.set_cons_zero, List.set_cons_succ]
              refine wpAnyH_ready (rs := [3]) (by decide +kernel) (by simp) (AllReadyH.cons rfl (fun KQ hK => ?_) AllReadyH.nil)
              go_simp
              refine SM.out.mono ?_; rintro e0 Wc ⟨rfl, d⟩
              replace T := Lib.hid (show Tp w gc n A Wc ⟨0, x1, x2, x3, Z1, z1, y1, Z2, z2, y2, Z3, z3, y3⟩ ts gs as1 b7 e7 from T.out.call HA.out d HNB.out.2 HNB.out.1)
              clear d SM
              refine hK.out _ _ trivial (fun _ => ?_)
              clear hK
              try simp only [List.setIfInBounds_toArray, List.set_cons_zero, List.set_cons_succ]
              refine wpAnyH_take (i := 4) (v := .int .u32 x7) rfl (by kernel_rfl) (by kernel_rfl) (by kernel_rfl) (fun _ _ _ h => h) (.inl ⟨by rfl, ?_⟩) (by assumption) ?_
              · intro W hW; go_simp
              try simp only [List.getElem_toArray, List.getElem_cons_zero, List.getElem_cons_succ, Act.put, List.setIfInBounds_toArray, List.set_cons_zero, List.set_cons_succ]
              refine wpAnyH_ready (rs := [5]) (by decide +kernel) (by simp) (AllReadyH.cons rfl (fun KQ hK => ?_) AllReadyH.nil)
              obtain ⟨Wb, hWb⟩ : ∃ W, Wc.alloc (.cells #[.int .u32 x7] 25) = W := ⟨_, rfl⟩
              have RD : Hid (E3w.Rd Wb (some ⟨Wc.heap.size, 0, none⟩) 1 [x7]) := Lib.hid (by rw [← hWb]; exact gbx_rd (gbx_new (E := E3w) Wc x7))
              replace T := Lib.hid (show Tp w gc n A Wb ⟨0, x1, x2, x3, Z1, z1, y1, Z2, z2, y2, Z3, z3, y3⟩ ts gs as1 b7 e7 by rw [← hWb]; exact T.out.below (below_new _ _))
              go_simp
              (try rw [hWb])
              refine hK.out _ _ trivial (fun _ => ?_)
              clear hK hWb
              try simp only [List.setIfInBounds_toArray, List.set_cons_zero, List.set_cons_succ]
              refine wpAnyH_ready (rs := [6]) (by decide +kernel) (by simp) (AllReadyH.cons rfl (fun KQ hK => ?_) AllReadyH.nil)
              rw [if_pos (by rfl)]
              refine n3_wp15 _ _ rfl (w.heap.size + 2) (.slice Z3 z3 y3) as1 rfl T.out.oa _ 1 1 [x7] rfl RD.out (fun e => by cases e) LT.out (by have := T.out.new; have := tbx_lt15 T.out.box; omega) ?_
              intro v9 w9 o9 g9 _
              obtain ⟨Z9, z9, y9, rfl⟩ := gown_any o9
              have TB := T.out.appA g9 o9
              have hcell : w9.cell? ⟨gc, 6, none⟩ = some (.slice Z3 z3 y3) := rv_c15 TB.1 rfl
              have hfree : w9.frozen? ⟨gc, 6, none⟩ = false := gbx_fz TB.1 6
              replace T := Lib.hid (show Tp w gc n A (w9.setCell ⟨gc, 6, none⟩ (.slice Z9 z9 y9)) ⟨0, x1, x2, x3, Z1, z1, y1, Z2, z2, y2, Z9, z9, y9⟩ ts gs (as1 ++ [x7]) b7 e7 from TB.2)
              clear TB o9 g9 RD
              refine hK.out _ _ trivial (fun _ => ?_)
              clear hK
              try simp only [List.setIfInBounds_toArray, List.set_cons_zero, List.set_cons_succ]
              refine wpAnyH_take (i := 7) (v := .pointer (some ⟨gc, 6, none⟩)) rfl (by kernel_rfl) (by kernel_rfl) (by kernel_rfl) (fun _ _ _ h => h) (.inl ⟨by rfl, ?_⟩) (by assumption) ?_
              · intro W hW; go_simp
              try simp only [List.getElem_toArray, List.getElem_cons_zero, List.getElem_cons_succ, Act.put, List.setIfInBounds_toArray, List.set_cons_zero, List.set_cons_succ]
              refine wpAnyH_ready (rs := [8]) (by decide +kernel) (by simp) (AllReadyH.cons rfl (fun KQ hK => ?_) AllReadyH.nil)
              go_simp
              refine hK.out _ _ trivial (fun _ => ?_)
              clear hK hcell hfree
              try simp only [List.setIfInBounds_toArray, List.set_cons_zero, List.set_cons_succ]
              refine wpAnyH_done (by decide +kernel) ?_ _
              go_wp2_with fail
              go_roundw
              case rel => exact ⟨k + 1, Z9, z9, y9, _, _, _, hlt, by first | rfl | go_num, T.out, NI.out, by rw [List.length_append, TL.out]; rfl⟩
              case measure => simp [intOf]; omega
            · skip
              go_simp
              refine SM.out.mono ?_; rintro e0 Wc ⟨rfl, d⟩
              replace T := Lib.hid (show Tp w gc n A Wc ⟨0, x1, x2, x3, Z1, z1, y1, Z2, z2, y2, Z3, z3, y3⟩ ts gs as1 b7 e7 from T.out.call HA.out d HNB.out.2 HNB.out.1)
              clear d SM
              refine hK.out _ _ trivial (fun _ => ?_)
              clear hK
              try simp only [List.setIfInBounds_toArray, List.set_cons_zero, List.set_cons_succ]
              refine wpAnyH_take (i := 4) (v := .int .u32 x7) rfl (by kernel_rfl) (by kernel_rfl) (by kernel_rfl) (fun _ _ _ h => h) (.inl ⟨by rfl, ?_⟩) (by assumption) ?_
              · intro W hW; go_simp
              try simp only [List.getElem_toArray, List.getElem_cons_zero, List.getElem_cons_succ, Act.put, List.setIfInBounds_toArray, List.set_cons_zero, List.set_cons_succ]
              refine wpAnyH_ready (rs := [1, 5]) (by decide +kernel) (by simp) (AllReadyH.cons rfl (fun KQ hK => ?_) (AllReadyH.cons rfl (fun KQ hK => ?_) AllReadyH.nil))
              · skip
                have hcL : Wc.cell? ⟨gc, 6, none⟩ = some (.slice Z3 z3 y3) := rv_c15 T.out.box rfl
                go_simp
                refine hK.out _ _ trivial (fun _ => ?_)
                clear hK hcL
                try simp only [List.setIfInBounds_toArray, List.set_cons_zero, List.set_cons_succ]
                refine wpAnyH_ready (rs := [5]) (by decide +kernel) (by simp) (AllReadyH.cons rfl (fun KQ hK => ?_) AllReadyH.nil)
                obtain ⟨Wb, hWb⟩ : ∃ W, Wc.alloc (.cells #[.int .u32 x7] 25) = W := ⟨_, rfl⟩
                have RD : Hid (E3w.Rd Wb (some ⟨Wc.heap.size, 0, none⟩) 1 [x7]) := Lib.hid (by rw [← hWb]; exact gbx_rd (gbx_new (E := E3w) Wc x7))
                replace T := Lib.hid (show Tp w gc n A Wb ⟨0, x1, x2, x3, Z1, z1, y1, Z2, z2, y2, Z3, z3, y3⟩ ts gs as1 b7 e7 by rw [← hWb]; exact T.out.below (below_new _ _))
                go_simp
                (try rw [hWb])
                refine hK.out _ _ trivial (fun _ => ?_)
                clear hK hWb
                try simp only [List.setIfInBounds_toArray, List.set_cons_zero, List.set_cons_succ]
                refine wpAnyH_ready (rs := [6]) (by decide +kernel) (by simp) (AllReadyH.cons rfl (fun KQ hK => ?_) AllReadyH.nil)
                rw [if_pos (by rfl)]
                refine n3_wp15 _ _ rfl (w.heap.size + 2) (.slice Z3 z3 y3) as1 rfl T.out.oa _ 1 1 [x7] rfl RD.out (fun e => by cases e) LT.out (by have := T.out.new; have := tbx_lt15 T.out.box; omega) ?_
                intro v9 w9 o9 g9 _
                obtain ⟨Z9, z9, y9, rfl⟩ := gown_any o9
                have TB := T.out.appA g9 o9
                have hcell : w9.cell? ⟨gc, 6, none⟩ = some (.slice Z3 z3 y3) := rv_c15 TB.1 rfl
                have hfree : w9.frozen? ⟨gc, 6, none⟩ = false := gbx_fz TB.1 6
                replace T := Lib.hid (show Tp w gc n A (w9.setCell ⟨gc, 6, none⟩ (.slice Z9 z9 y9)) ⟨0, x1, x2, x3, Z1, z1, y1, Z2, z2, y2, Z9, z9, y9⟩ ts gs (as1 ++ [x7]) b7 e7 from TB.2)
                clear TB o9 g9 RD
                refine hK.out _ _ trivial (fun _ => ?_)
                clear hK
                try simp only [List.setIfInBounds_toArray, List.set_cons_zero, List.set_cons_succ]
                refine wpAnyH_take (i := 7) (v := .pointer (some ⟨gc, 6, none⟩)) rfl (by kernel_rfl) (by kernel_rfl) (by kernel_rfl) (fun _ _ _ h => h) (.inl ⟨by rfl, ?_⟩) (by assumption) ?_
                · intro W hW; go_simp
                try simp only [List.getElem_toArray, List.getElem_cons_zero, List.getElem_cons_succ, Act.put, List.setIfInBounds_toArray, List.set_cons_zero, List.set_cons_succ]
                refine wpAnyH_ready (rs := [8]) (by decide +kernel) (by simp) (AllReadyH.cons rfl (fun KQ hK => ?_) AllReadyH.nil)
                go_simp
                refine hK.out _ _ trivial (fun _ => ?_)
                clear hK hcell hfree
                try simp only [List.setIfInBounds_toArray, List.set_cons_zero, List.set_cons_succ]
                refine wpAnyH_done (by decide +kernel) ?_ _
                go_wp2_with fail
                go_roundw
                case rel => exact ⟨k + 1, Z9, z9, y9, _, _, _, hlt, by first | rfl | go_num, T.out, NI.out, by rw [List.length_append, TL.out]; rfl⟩
                case measure => simp [intOf]; omega
              · skip
                obtain ⟨Wb, hWb⟩ : ∃ W, Wc.alloc (.cells #[.int .u32 x7] 25) = W := ⟨_, rfl⟩
                have RD : Hid (E3w.Rd Wb (some ⟨Wc.heap.size, 0, none⟩) 1 [x7]) := Lib.hid (by rw [← hWb]; exact gbx_rd (gbx_new (E := E3w) Wc x7))
                replace T := Lib.hid (show Tp w gc n A Wb ⟨0, x1, x2, x3, Z1, z1, y1, Z2, z2, y2, Z3, z3, y3⟩ ts gs as1 b7 e7 by rw [← hWb]; exact T.out.below (below_new _ _))
                go_simp
                (try rw [hWb])
                refine hK.out _ _ trivial (fun _ => ?_)
                clear hK hWb
                try simp only [List.setIfInBounds_toArray, List.set_cons_zero, List.set_cons_succ]
                refine wpAnyH_ready (rs := [1]) (by decide +kernel) (by simp) (AllReadyH.cons rfl (fun KQ hK => ?_) AllReadyH.nil)
                have hcL : Wb.cell? ⟨gc, 6, none⟩ = some (.slice Z3 z3 y3) := rv_c15 T.out.box rfl
                go_simp
                refine hK.out _ _ trivial (fun _ => ?_)
                clear hK hcL
                try simp only [List.setIfInBounds_toArray, List.set_cons_zero, List.set_cons_succ]
                refine wpAnyH_ready (rs := [6]) (by decide +kernel) (by simp) (AllReadyH.cons rfl (fun KQ hK => ?_) AllReadyH.nil)
                rw [if_pos (by rfl)]
                refine n3_wp15 _ _ rfl (w.heap.size + 2) (.slice Z3 z3 y3) as1 rfl T.out.oa _ 1 1 [x7] rfl RD.out (fun e => by cases e) LT.out (by have := T.out.new; have := tbx_lt15 T.out.box; omega) ?_
                intro v9 w9 o9 g9 _
                obtain ⟨Z9, z9, y9, rfl⟩ := gown_any o9
                have TB := T.out.appA g9 o9
                have hcell : w9.cell? ⟨gc, 6, none⟩ = some (.slice Z3 z3 y3) := rv_c15 TB.1 rfl
                have hfree : w9.frozen? ⟨gc, 6, none⟩ = false := gbx_fz TB.1 6
                replace T := Lib.hid (show Tp w gc n A (w9.setCell ⟨gc, 6, none⟩ (.slice Z9 z9 y9)) ⟨0, x1, x2, x3, Z1, z1, y1, Z2, z2, y2, Z9, z9, y9⟩ ts gs (as1 ++ [x7]) b7 e7 from TB.2)
                clear TB o9 g9 RD
                refine hK.out _ _ trivial (fun _ => ?_)
                clear hK
                try simp only [List.setIfInBounds_toArray, List.set_cons_zero, List.set_cons_succ]
                refine wpAnyH_take (i := 7) (v := .pointer (some ⟨gc, 6, none⟩)) rfl (by kernel_rfl) (by kernel_rfl) (by kernel_rfl) (fun _ _ _ h => h) (.inl ⟨by rfl, ?_⟩) (by assumption) ?_
                · intro W hW; go_simp
                try simp only [List.getElem_toArray, List.getElem_cons_zero, List.getElem_cons_succ, Act.put, List.setIfInBounds_toArray, List.set_cons_zero, List.set_cons_succ]
                refine wpAnyH_ready (rs := [8]) (by decide +kernel) (by simp) (AllReadyH.cons rfl (fun KQ hK => ?_) AllReadyH.nil)
                go_simp
                refine hK.out _ _ trivial (fun _ => ?_)
                clear hK hcell hfree
                try simp only [List.setIfInBounds_toArray, List.set_cons_zero, List.set_cons_succ]
                refine wpAnyH_done (by decide +kernel) ?_ _
                go_wp2_with fail
                go_roundw
                case rel => exact ⟨k + 1, Z9, z9, y9, _, _, _, hlt, by first | rfl | go_num, T.out, NI.out, by rw [List.length_append, TL.out]; rfl⟩
                case measure => simp [intOf]; omega
        have dk : decide ((k : Int) < (m5 : Int)) = true := decide_eq_true (by omega)
        by_cases he : e = 0
        case neg =>
          have NX2 : Hid (rL gR m5 b5 e5 = (gs, b, e)) := Lib.hid (rL_end (.inr he) INV.out)
          have e0 : (e == 0) = false := by simp [he]
          clear INV TL
          obtain ⟨A9, n9, c9, rq, hA⟩ := T.out.rq
          have hn9 : n9 ≤ 20000 := by have h1 := rq.r.1; have h2 := T.out.len; omega
          have BYb := T.out.by'
          have SM := Lib.hid (rsmall_any (w.heap.size + 1) n9 c9 A9 b e 4000 _ rq BYb (by omega))
          have MB := sR_most BYb e (m := 4000) (by decide)
          have NB := sR_by BYb e 4000
          obtain ⟨⟨x8, b8, e8⟩, hr⟩ : ∃ r, sR b e 4000 = r := ⟨_, rfl⟩
          unfold SmallE at SM
          rw [hr] at SM MB NB
          dsimp only at SM MB NB
          obtain ⟨ma8, mb8⟩ := MB
          have HR8 := Lib.hid hr
          clear rq hn9 BYb hr
          go_wp2_with fail
          clear kE
          refine SM.out.mono ?_; rintro en W8 ⟨rfl, d⟩
          replace T := Lib.hid (show Tp w gc n A W8 ⟨0, x1, x2, x3, Z1, z1, y1, Z2, z2, y2, none, 0, 0⟩ ts gs [] b8 e8 from T.out.call hA d NB.2 NB.1)
          clear d SM hA NB
          obtain ⟨m8, hm⟩ : ∃ k : Nat, x8 = (k : Int) := ⟨x8.toNat, by omega⟩
          subst hm
          have M4 : m8 ≤ 4000 := by omega
          go_wp2_with fail
          go_loopw [10] (fun i wr => ∃ (k : Nat) (Z3 : Option Addr) (z3 y3 : Nat) (as1 : List Int) (b : List Int) (e : Int), k ≤ m8 ∧ i = .int .u64 k ∧ Tp w gc n A wr ⟨0, x1, x2, x3, Z1, z1, y1, Z2, z2, y2, Z3, z3, y3⟩ ts gs as1 b e ∧ rL aR m8 b8 e8 = (as1 ++ (rL aR (m8 - k) b e).1, (rL aR (m8 - k) b e).2) ∧ as1.length = k) (fun i _ => m8 - (intOf i).toNat)
          case atStart => exact ⟨0, none, 0, 0, [], _, _, Nat.zero_le _, rfl, T.out, by simp, rfl⟩
          case round =>
            obtain ⟨k, Z3, z3, y3, as1, b, e, hk, rfl, tp, inv, tl⟩ := hrel
            replace T := Lib.hid tp
            have INV := Lib.hid inv
            have TL := Lib.hid tl
            clear tp inv tl
            obtain ⟨A5, n5, c5, rq5, hA5⟩ := T.out.rq
            have kE := rq5.c1
            clear rq5 hA5
            by_cases hlt : k < m8
            case neg =>
              have NX3 : Hid (rL aR m8 b8 e8 = (as1, b, e)) := Lib.hid (rL_end (.inl (by omega)) INV.out)
              have dk : decide ((k : Int) < (m8 : Int)) = false := decide_eq_false (by omega)
              clear INV TL
              have PRE : Hid (pR bs = (⟨0, x1, x2, x3, ts, gs, as1⟩, b, e)) := Lib.hid (by
                unfold pR
                rw [HR.out]
                rw [if_pos ⟨rfl, rfl⟩]
                simp only [nL, HR1.out, HR2.out, HR3.out, HR4.out, HR5.out, HR8.out, Int.toNat_natCast, NX1.out, NX2.out, NX3.out])
              clear NX1 NX2 NX3 HR1 HR2 HR3 HR4 HR5 HR8
              obtain ⟨A9, n9, c9, rq, hA⟩ := T.out.rq
              have hn9 : n9 ≤ 20000 := by have h1 := rq.r.1; have h2 := T.out.len; omega
              obtain ⟨bL, hbL⟩ : ∃ x, b = x := ⟨_, rfl⟩
              obtain ⟨eL, heL⟩ : ∃ x, e = x := ⟨_, rfl⟩
              have DN := Lib.hid (rdone_any (w.heap.size + 1) n9 c9 A9 b e wr rq (by omega))
              obtain ⟨D, hD⟩ : ∃ D, (if e = 0 ∧ 0 < (b).length then (5 : Int) else e) = D := ⟨_, rfl⟩
              rw [hD] at DN
              have YES : Hid (D = 0 → IsR bs ⟨0, x1, x2, x3, ts, gs, as1⟩) := Lib.hid fun h0 => by
                have e2 : (pR bs).2 = ([], 0) := by
                  rw [PRE.out]
                  rw [← hD] at h0
                  by_cases c : e = 0 ∧ 0 < (b).length
                  · rw [if_pos c] at h0; omega
                  · rw [if_neg c] at h0
                    have l0 : b = [] := List.eq_nil_of_length_eq_zero (by omega)
                    show (b, e) = _
                    rw [l0, h0]
                have := pR_back BY.out e2
                rw [PRE.out] at this
                exact this
              have NO : Hid (D ≠ 0 → ∀ d, ¬ IsR bs d) := Lib.hid fun h0 => pR_none (by
                rw [PRE.out]
                intro c
                have c1 : b = [] := congrArg Prod.fst c
                have c2 : e = 0 := congrArg Prod.snd c
                apply h0
                rw [← hD, c1, c2]
                rfl)
              clear rq hn9 hA hD hbL heL
              go_wp2_with fail
              refine DN.out.mono ?_; rintro en wd ⟨rfl, hwd⟩
              subst hwd
              by_cases d0 : D = 0
              case neg =>
                have dd : (D != 0) = true := by simp [d0]
                have NN := Lib.hid (NO.out d0)
                obtain ⟨z, hz⟩ := T.out.res
                have HZ := Lib.hid hz
                obtain ⟨Wz, hWz⟩ : ∃ W, wr.setRow w.heap.size (ERv.cells zeroRv).toArray = W := ⟨_, rfl⟩
                have TT := T.out.told (x := zeroRv)
                rw [hWz] at TT
                have TL := Lib.hid TT
                have HWz := Lib.hid hWz
                clear d0 hz hWz TT
                go_wp2_with (refine rwl_store TRv zeroRv w.heap.size HZ.out rfl rfl ?_; rw [HWz.out])
                (try simp only [Exit.inBlock, Exit.then])
                refine bodyPost_ret (rret TRv rfl _ Wz w.heap.size rfl rfl TL.out.1) rfl ?_
                exact ⟨zeroRv, zeroRw, 5, rfl, errV_ok 0, errV_in 0 Wz, .inr ⟨NN.out, rfl, rfl⟩, TL.out.2.2.2⟩
              subst d0
              have IS := Lib.hid (YES.out rfl)
              obtain ⟨z, hz⟩ := T.out.res
              have HZ := Lib.hid hz
              have XB := Lib.hid (gbx_rng T.out.box)
              obtain ⟨Wz, hWz⟩ : ∃ W, wr.setRow w.heap.size (ERv.cells (⟨0, x1, x2, x3, Z1, z1, y1, Z2, z2, y2, Z3, z3, y3⟩ : Rv)).toArray = W := ⟨_, rfl⟩
              have TT := T.out.told (x := (⟨0, x1, x2, x3, Z1, z1, y1, Z2, z2, y2, Z3, z3, y3⟩ : Rv))
              rw [hWz] at TT
              have TL := Lib.hid TT
              have HWz := Lib.hid hWz
              clear hz hWz TT
              go_wp2_with (first | ((with_reducible refine rwl_load TRv gc 0 XB.out ?_ ?_ ?_); rfl; rfl) | (refine rwl_store TRv (⟨0, x1, x2, x3, Z1, z1, y1, Z2, z2, y2, Z3, z3, y3⟩ : Rv) w.heap.size HZ.out rfl rfl ?_; rw [HWz.out]))
              (try simp only [Exit.inBlock, Exit.then])
              refine bodyPost_ret (rret TRv rfl _ Wz w.heap.size rfl rfl TL.out.1) rfl ?_
              exact ⟨(⟨0, x1, x2, x3, Z1, z1, y1, Z2, z2, y2, Z3, z3, y3⟩ : Rv), ⟨0, x1, x2, x3, ts, gs, as1⟩, 0, rfl, TL.out.2.1, TL.out.2.2.1, .inl ⟨IS.out, rfl⟩, TL.out.2.2.2⟩
            have dk : decide ((k : Int) < (m8 : Int)) = true := decide_eq_true (by omega)
            by_cases he : e = 0
            case neg =>
              have NX3 : Hid (rL aR m8 b8 e8 = (as1, b, e)) := Lib.hid (rL_end (.inr he) INV.out)
              have e0 : (e == 0) = false := by simp [he]
              clear INV TL
              have PRE : Hid (pR bs = (⟨0, x1, x2, x3, ts, gs, as1⟩, b, e)) := Lib.hid (by
                unfold pR
                rw [HR.out]
                rw [if_pos ⟨rfl, rfl⟩]
                simp only [nL, HR1.out, HR2.out, HR3.out, HR4.out, HR5.out, HR8.out, Int.toNat_natCast, NX1.out, NX2.out, NX3.out])
              clear NX1 NX2 NX3 HR1 HR2 HR3 HR4 HR5 HR8
              obtain ⟨A9, n9, c9, rq, hA⟩ := T.out.rq
              have hn9 : n9 ≤ 20000 := by have h1 := rq.r.1; have h2 := T.out.len; omega
              obtain ⟨bL, hbL⟩ : ∃ x, b = x := ⟨_, rfl⟩
              obtain ⟨eL, heL⟩ : ∃ x, e = x := ⟨_, rfl⟩
              have DN := Lib.hid (rdone_any (w.heap.size + 1) n9 c9 A9 b e wr rq (by omega))
              obtain ⟨D, hD⟩ : ∃ D, (if e = 0 ∧ 0 < (b).length then (5 : Int) else e) = D := ⟨_, rfl⟩
              rw [hD] at DN
              have YES : Hid (D = 0 → IsR bs ⟨0, x1, x2, x3, ts, gs, as1⟩) := Lib.hid fun h0 => by
                have e2 : (pR bs).2 = ([], 0) := by
                  rw [PRE.out]
                  rw [← hD] at h0
                  by_cases c : e = 0 ∧ 0 < (b).length
                  · rw [if_pos c] at h0; omega
                  · rw [if_neg c] at h0
                    have l0 : b = [] := List.eq_nil_of_length_eq_zero (by omega)
                    show (b, e) = _
                    rw [l0, h0]
                have := pR_back BY.out e2
                rw [PRE.out] at this
                exact this
              have NO : Hid (D ≠ 0 → ∀ d, ¬ IsR bs d) := Lib.hid fun h0 => pR_none (by
                rw [PRE.out]
                intro c
                have c1 : b = [] := congrArg Prod.fst c
                have c2 : e = 0 := congrArg Prod.snd c
                apply h0
                rw [← hD, c1, c2]
                rfl)
              clear rq hn9 hA hD hbL heL
              go_wp2_with fail
              refine DN.out.mono ?_; rintro en wd ⟨rfl, hwd⟩
              subst hwd
              by_cases d0 : D = 0
              case neg =>
                have dd : (D != 0) = true := by simp [d0]
                have NN := Lib.hid (NO.out d0)
                obtain ⟨z, hz⟩ := T.out.res
                have HZ := Lib.hid hz
                obtain ⟨Wz, hWz⟩ : ∃ W, wr.setRow w.heap.size (ERv.cells zeroRv).toArray = W := ⟨_, rfl⟩
                have TT := T.out.told (x := zeroRv)
                rw [hWz] at TT
                have TL := Lib.hid TT
                have HWz := Lib.hid hWz
                clear d0 hz hWz TT
                go_wp2_with (refine rwl_store TRv zeroRv w.heap.size HZ.out rfl rfl ?_; rw [HWz.out])
                (try simp only [Exit.inBlock, Exit.then])
                refine bodyPost_ret (rret TRv rfl _ Wz w.heap.size rfl rfl TL.out.1) rfl ?_
                exact ⟨zeroRv, zeroRw, 5, rfl, errV_ok 0, errV_in 0 Wz, .inr ⟨NN.out, rfl, rfl⟩, TL.out.2.2.2⟩
              subst d0
              have IS := Lib.hid (YES.out rfl)
              obtain ⟨z, hz⟩ := T.out.res
              have HZ := Lib.hid hz
              have XB := Lib.hid (gbx_rng T.out.box)
              obtain ⟨Wz, hWz⟩ : ∃ W, wr.setRow w.heap.size (ERv.cells (⟨0, x1, x2, x3, Z1, z1, y1, Z2, z2, y2, Z3, z3, y3⟩ : Rv)).toArray = W := ⟨_, rfl⟩
              have TT := T.out.told (x := (⟨0, x1, x2, x3, Z1, z1, y1, Z2, z2, y2, Z3, z3, y3⟩ : Rv))
              rw [hWz] at TT
              have TL := Lib.hid TT
              have HWz := Lib.hid hWz
              clear hz hWz TT
              go_wp2_with (first | ((with_reducible refine rwl_load TRv gc 0 XB.out ?_ ?_ ?_); rfl; rfl) | (refine rwl_store TRv (⟨0, x1, x2, x3, Z1, z1, y1, Z2, z2, y2, Z3, z3, y3⟩ : Rv) w.heap.size HZ.out rfl rfl ?_; rw [HWz.out]))
              (try simp only [Exit.inBlock, Exit.then])
              refine bodyPost_ret (rret TRv rfl _ Wz w.heap.size rfl rfl TL.out.1) rfl ?_
              exact ⟨(⟨0, x1, x2, x3, Z1, z1, y1, Z2, z2, y2, Z3, z3, y3⟩ : Rv), ⟨0, x1, x2, x3, ts, gs, as1⟩, 0, rfl, TL.out.2.1, TL.out.2.2.1, .inl ⟨IS.out, rfl⟩, TL.out.2.2.2⟩
            subst he
            have e0 : ((0 : Int) == 0) = true := by decide
            have wk : IntKind.u64.wrap ((k : Int) + 1) = (k : Int) + 1 := by simp [IntKind.wrap, IntKind.bits, IntKind.signed]; omega
            go_wp2_with fail
            clear kE dk e0
            refine wp_region_held_drew (S := fun _ => True) (by kernel_rfl) trivial (fun hH => ?_)
            replace T := Lib.hid (show Tp w gc n A wr.drew ⟨0, x1, x2, x3, Z1, z1, y1, Z2, z2, y2, Z3, z3, y3⟩ ts gs as1 b 0 from T.out.below (Below.refl _ _).drew)
            generalize wr.drew = wd at T ⊢
            obtain ⟨A9, n9, c9, rq, hA⟩ := T.out.rq
            have hn9 : n9 ≤ 20000 := by have h1 := rq.r.1; have h2 := T.out.len; omega
            have BYb := T.out.by'
            have SM := Lib.hid (rsmall_any (w.heap.size + 1) n9 c9 A9 b 0 4294967295 wd rq BYb (by omega))
            have MB := sR_most BYb 0 (m := 4294967295) (by decide)
            have NB := sR_by BYb 0 4294967295
            obtain ⟨⟨x9, b9, e9⟩, hr⟩ : ∃ r, sR b 0 4294967295 = r := ⟨_, rfl⟩
            unfold SmallE at SM
            rw [hr] at SM MB NB
            dsimp only at SM MB NB
            obtain ⟨ma9, mb9⟩ := MB
            have NI := Lib.hid (rL_next hlt (show aR b 0 = (x9, b9, e9) from hr) INV.out)
            have HA := Lib.hid hA
            have HNB := Lib.hid NB
            clear rq hn9 BYb hr hA NB
            have LT : Hid (as1.length + 1 ≤ 100000) := Lib.hid (by have := TL.out; omega)
            have wu : IntKind.u32.wrap x9 = x9 := by simp [IntKind.wrap, IntKind.bits, IntKind.signed]; omega
            refine wpAnyH_take (i := 0) (v := .pointer (some ⟨gc, 6, none⟩)) rfl (by kernel_rfl) (by kernel_rfl) (by kernel_rfl) (fun _ _ _ h => h) (.inl ⟨by rfl, ?_⟩) (by assumption) ?_
            · intro W hW; go_simp
            try simp only [List.getElem_toArray, List.getElem_cons_zero, Act.put, List.setIfInBounds_toArray, List.set_cons_zero, List.set_cons_succ]
            refine wpAnyH_take (i := 2) (v := .pointer (some ⟨w.heap.size + 1, 0, none⟩)) rfl (by kernel_rfl) (by kernel_rfl) (by kernel_rfl) (fun _ _ _ h => h) (.inl ⟨by rfl, ?_⟩) (by assumption) ?_
            · intro W hW; go_simp
            try simp only [List.getElem_toArray, List.getElem_cons_zero, List.getElem_cons_succ, Act.put, List.setIfInBounds_toArray, List.set_cons_zero, List.set_cons_succ]
            refine wpAnyH_ready (rs := [1, 3]) (by decide +kernel) (by simp) (AllReadyH.cons rfl (fun KQ hK => ?_) (AllReadyH.cons rfl (fun KQ hK => ?_) AllReadyH.nil))
            · skip
              have hcL : wd.cell? ⟨gc, 6, none⟩ = some (.slice Z3 z3 y3) := rv_c15 T.out.box rfl
              go_simp
              refine hK.out _ _ trivial (fun _ => ?_)
              clear hK hcL
              try simp only [List.setIfInBounds_toArray, List.set_cons_zero, List.set_cons_succ]
              refine wpAnyH_ready (rs := [3]) (by decide +kernel) (by simp) (AllReadyH.cons rfl (fun KQ hK => ?_) AllReadyH.nil)
              go_simp
              refine SM.out.mono ?_; rintro e0 Wc ⟨rfl, d⟩
              replace T := Lib.hid (show Tp w gc n A Wc ⟨0, x1, x2, x3, Z1, z1, y1, Z2, z2, y2, Z3, z3, y3⟩ ts gs as1 b9 e9 from T.out.call HA.out d HNB.out.2 HNB.out.1)
              clear d SM
              refine hK.out _ _ trivial (fun _ => ?_)
              clear hK
              try simp only [List.setIfInBounds_toArray, List.set_cons_zero, List.set_cons_succ]
              refine wpAnyH_take (i := 4) (v := .int .u32 x9) rfl (by kernel_rfl) (by kernel_rfl) (by kernel_rfl) (fun _ _ _ h => h) (.inl ⟨by rfl, ?_⟩) (by assumption) ?_
              · intro W hW; go_simp
              try simp only [List.getElem_toArray, List.getElem_cons_zero, List.getElem_cons_succ, Act.put, List.setIfInBounds_toArray, List.set_cons_zero, List.set_cons_succ]
              refine wpAnyH_ready (rs := [5]) (by decide +kernel) (by simp) (AllReadyH.cons rfl (fun KQ hK => ?_) AllReadyH.nil)
              obtain ⟨Wb, hWb⟩ : ∃ W, Wc.alloc (.cells #[.int .u32 x9] 25) = W := ⟨_, rfl⟩
              have RD : Hid (E3w.Rd Wb (some ⟨Wc.heap.size, 0, none⟩) 1 [x9]) := Lib.hid (by rw [← hWb]; exact gbx_rd (gbx_new (E := E3w) Wc x9))
              replace T := Lib.hid (show Tp w gc n A Wb ⟨0, x1, x2, x3, Z1, z1, y1, Z2, z2, y2, Z3, z3, y3⟩ ts gs as1 b9 e9 by rw [← hWb]; exact T.out.below (below_new _ _))
              go_simp
              (try rw [hWb])
              refine hK.out _ _ trivial (fun _ => ?_)
              clear hK hWb
              try simp only [List.setIfInBounds_toArray, List.set_cons_zero, List.set_cons_succ]
              refine wpAnyH_ready (rs := [6]) (by decide +kernel) (by simp) (AllReadyH.cons rfl (fun KQ hK => ?_) AllReadyH.nil)
              rw [if_pos (by rfl)]
              refine n3_wp15 _ _ rfl (w.heap.size + 2) (.slice Z3 z3 y3) as1 rfl T.out.oa _ 1 1 [x9] rfl RD.out (fun e => by cases e) LT.out (by have := T.out.new; have := tbx_lt15 T.out.box; omega) ?_
              intro v9 w9 o9 g9 _
              obtain ⟨Z9, z9, y9, rfl⟩ := gown_any o9
              have TB := T.out.appA g9 o9
              have hcell : w9.cell? ⟨gc, 6, none⟩ = some (.slice Z3 z3 y3) := rv_c15 TB.1 rfl
              have hfree : w9.frozen? ⟨gc, 6, none⟩ = false := gbx_fz TB.1 6
              replace T := Lib.hid (show Tp w gc n A (w9.setCell ⟨gc, 6, none⟩ (.slice Z9 z9 y9)) ⟨0, x1, x2, x3, Z1, z1, y1, Z2, z2, y2, Z9, z9, y9⟩ ts gs (as1 ++ [x9]) b9 e9 from TB.2)
              clear TB o9 g9 RD
              refine hK.out _ _ trivial (fun _ => ?_)
              clear hK
              try simp only [List.setIfInBounds_toArray, List.set_cons_zero, List.set_cons_succ]
              refine wpAnyH_take (i := 7) (v := .pointer (some ⟨gc, 6, none⟩)) rfl (by kernel_rfl) (by kernel_rfl) (by kernel_rfl) (fun _ _ _ h => h) (.inl ⟨by rfl, ?_⟩) (by assumption) ?_
              · intro W hW; go_simp
              try simp only [List.getElem_toArray, List.getElem_cons_zero, List.getElem_cons_succ, Act.put, List.setIfInBounds_toArray, List.set_cons_zero, List.set_cons_succ]
              refine wpAnyH_ready (rs := [8]) (by decide +kernel) (by simp) (AllReadyH.cons rfl (fun KQ hK => ?_) AllReadyH.nil)
              go_simp
              refine hK.out _ _ trivial (fun _ => ?_)
              clear hK hcell hfree
              try simp only [List.setIfInBounds_toArray, List.set_cons_zero, List.set_cons_succ]
              refine wpAnyH_done (by decide +kernel) ?_ _
              go_wp2_with fail
              go_roundw
              case rel => exact ⟨k + 1, Z9, z9, y9, _, _, _, hlt, by first | rfl | go_num, T.out, NI.out, by rw [List.length_append, TL.out]; rfl⟩
              case measure => simp [intOf]; omega
            · skip
              go_simp
              refine SM.out.mono ?_; rintro e0 Wc ⟨rfl, d⟩
              replace T := Lib.hid (show Tp w gc n A Wc ⟨0, x1, x2, x3, Z1, z1, y1, Z2, z2, y2, Z3, z3, y3⟩ ts gs as1 b9 e9 from T.out.call HA.out d HNB.out.2 HNB.out.1)
              clear d SM
              refine hK.out _ _ trivial (fun _ => ?_)
              clear hK
              try simp only [List.setIfInBounds_toArray, List.set_cons_zero, List.set_cons_succ]
              refine wpAnyH_take (i := 4) (v := .int .u32 x9) rfl (by kernel_rfl) (by kernel_rfl) (by kernel_rfl) (fun _ _ _ h => h) (.inl ⟨by rfl, ?_⟩) (by assumption) ?_
              · intro W hW; go_simp
              try simp only [List.getElem_toArray, List.getElem_cons_zero, List.getElem_cons_succ, Act.put, List.setIfInBounds_toArray, List.set_cons_zero, List.set_cons_succ]
              refine wpAnyH_ready (rs := [1, 5]) (by decide +kernel) (by simp) (AllReadyH.cons rfl (fun KQ hK => ?_) (AllReadyH.cons rfl (fun KQ hK => ?_) AllReadyH.nil))
              · skip
                have hcL : Wc.cell? ⟨gc, 6, none⟩ = some (.slice Z3 z3 y3) := rv_c15 T.out.box rfl
                go_simp
                refine hK.out _ _ trivial (fun _ => ?_)
                clear hK hcL
                try simp only [List.setIfInBounds_toArray, List.set_cons_zero, List.set_cons_succ]
                refine wpAnyH_ready (rs := [5]) (by decide +kernel) (by simp) (AllReadyH.cons rfl (fun KQ hK => ?_) AllReadyH.nil)
                obtain ⟨Wb, hWb⟩ : ∃ W, Wc.alloc (.cells #[.int .u32 x9] 25) = W := ⟨_, rfl⟩
                have RD : Hid (E3w.Rd Wb (some ⟨Wc.heap.size, 0, none⟩) 1 [x9]) := Lib.hid (by rw [← hWb]; exact gbx_rd (gbx_new (E := E3w) Wc x9))
                replace T := Lib.hid (show Tp w gc n A Wb ⟨0, x1, x2, x3, Z1, z1, y1, Z2, z2, y2, Z3, z3, y3⟩ ts gs as1 b9 e9 by rw [← hWb]; exact T.out.below (below_new _ _))
                go_simp
                (try rw [hWb])
                refine hK.out _ _ trivial (fun _ => ?_)
                clear hK hWb
                try simp only [List.setIfInBounds_toArray, List.set_cons_zero, List.set_cons_succ]
                refine wpAnyH_ready (rs := [6]) (by decide +kernel) (by simp) (AllReadyH.cons rfl (fun KQ hK => ?_) AllReadyH.nil)
                rw [if_pos (by rfl)]
                refine n3_wp15 _ _ rfl (w.heap.size + 2) (.slice Z3 z3 y3) as1 rfl T.out.oa _ 1 1 [x9] rfl RD.out (fun e => by cases e) LT.out (by have := T.out.new; have := tbx_lt15 T.out.box; omega) ?_
                intro v9 w9 o9 g9 _
                obtain ⟨Z9, z9, y9, rfl⟩ := gown_any o9
                have TB := T.out.appA g9 o9
                have hcell : w9.cell? ⟨gc, 6, none⟩ = some (.slice Z3 z3 y3) := rv_c15 TB.1 rfl
                have hfree : w9.frozen? ⟨gc, 6, none⟩ = false := gbx_fz TB.1 6
                replace T := Lib.hid (show Tp w gc n A (w9.setCell ⟨gc, 6, none⟩ (.slice Z9 z9 y9)) ⟨0, x1, x2, x3, Z1, z1, y1, Z2, z2, y2, Z9, z9, y9⟩ ts gs (as1 ++ [x9]) b9 e9 from TB.2)
                clear TB o9 g9 RD
                refine hK.out _ _ trivial (fun _ => ?_)
                clear hK
                try simp only [List.setIfInBounds_toArray, List.set_cons_zero, List.set_cons_succ]
                refine wpAnyH_take (i := 7) (v := .pointer (some ⟨gc, 6, none⟩)) rfl (by kernel_rfl) (by kernel_rfl) (by kernel_rfl) (fun _ _ _ h => h) (.inl ⟨by rfl, ?_⟩) (by assumption) ?_
                · intro W hW; go_simp
                try simp only [List.getElem_toArray, List.getElem_cons_zero, List.getElem_cons_succ, Act.put, List.setIfInBounds_toArray, List.set_cons_zero, List.set_cons_succ]
                refine wpAnyH_ready (rs := [8]) (by decide +kernel) (by simp) (AllReadyH.cons rfl (fun KQ hK => ?_) AllReadyH.nil)
                go_simp
                refine hK.out _ _ trivial (fun _ => ?_)
                clear hK hcell hfree
                try simp only [List.setIfInBounds_toArray, List.set_cons_zero, List.set_cons_succ]
                refine wpAnyH_done (by decide +kernel) ?_ _
                go_wp2_with fail
                go_roundw
                case rel => exact ⟨k + 1, Z9, z9, y9, _, _, _, hlt, by first | rfl | go_num, T.out, NI.out, by rw [List.length_append, TL.out]; rfl⟩
                case measure => simp [intOf]; omega
              · skip
                obtain ⟨Wb, hWb⟩ : ∃ W, Wc.alloc (.cells #[.int .u32 x9] 25) = W := ⟨_, rfl⟩
                have RD : Hid (E3w.Rd Wb (some ⟨Wc.heap.size, 0, none⟩) 1 [x9]) := Lib.hid (by rw [← hWb]; exact gbx_rd (gbx_new (E := E3w) Wc x9))
                replace T := Lib.hid (show Tp w gc n A Wb ⟨0, x1, x2, x3, Z1, z1, y1, Z2, z2, y2, Z3, z3, y3⟩ ts gs as1 b9 e9 by rw [← hWb]; exact T.out.below (below_new _ _))
                go_simp
                (try rw [hWb])
                refine hK.out _ _ trivial (fun _ => ?_)
                clear hK hWb
                try simp only [List.setIfInBounds_toArray, List.set_cons_zero, List.set_cons_succ]
                refine wpAnyH_ready (rs := [1]) (by decide +kernel) (by simp) (AllReadyH.cons rfl (fun KQ hK => ?_) AllReadyH.nil)
                have hcL : Wb.cell? ⟨gc, 6, none⟩ = some (.slice Z3 z3 y3) := rv_c15 T.out.box rfl
                go_simp
                refine hK.out _ _ trivial (fun _ => ?_)
                clear hK hcL
                try simp only [List.setIfInBounds_toArray, List.set_cons_zero, List.set_cons_succ]
                refine wpAnyH_ready (rs := [6]) (by decide +kernel) (by simp) (AllReadyH.cons rfl (fun KQ hK => ?_) AllReadyH.nil)
                rw [if_pos (by rfl)]
                refine n3_wp15 _ _ rfl (w.heap.size + 2) (.slice Z3 z3 y3) as1 rfl T.out.oa _ 1 1 [x9] rfl RD.out (fun e => by cases e) LT.out (by have := T.out.new; have := tbx_lt15 T.out.box; omega) ?_
                intro v9 w9 o9 g9 _
                obtain ⟨Z9, z9, y9, rfl⟩ := gown_any o9
                have TB := T.out.appA g9 o9
                have hcell : w9.cell? ⟨gc, 6, none⟩ = some (.slice Z3 z3 y3) := rv_c15 TB.1 rfl
                have hfree : w9.frozen? ⟨gc, 6, none⟩ = false := gbx_fz TB.1 6
                replace T := Lib.hid (show Tp w gc n A (w9.setCell ⟨gc, 6, none⟩ (.slice Z9 z9 y9)) ⟨0, x1, x2, x3, Z1, z1, y1, Z2, z2, y2, Z9, z9, y9⟩ ts gs (as1 ++ [x9]) b9 e9 from TB.2)
                clear TB o9 g9 RD
                refine hK.out _ _ trivial (fun _ => ?_)
                clear hK
                try simp only [List.setIfInBounds_toArray, List.set_cons_zero, List.set_cons_succ]
                refine wpAnyH_take (i := 7) (v := .pointer (some ⟨gc, 6, none⟩)) rfl (by kernel_rfl) (by kernel_rfl) (by kernel_rfl) (fun _ _ _ h => h) (.inl ⟨by rfl, ?_⟩) (by assumption) ?_
                · intro W hW; go_simp
                try simp only [List.getElem_toArray, List.getElem_cons_zero, List.getElem_cons_succ, Act.put, List.setIfInBounds_toArray, List.set_cons_zero, List.set_cons_succ]
                refine wpAnyH_ready (rs := [8]) (by decide +kernel) (by simp) (AllReadyH.cons rfl (fun KQ hK => ?_) AllReadyH.nil)
                go_simp
                refine hK.out _ _ trivial (fun _ => ?_)
                clear hK hcell hfree
                try simp only [List.setIfInBounds_toArray, List.set_cons_zero, List.set_cons_succ]
                refine wpAnyH_done (by decide +kernel) ?_ _
                go_wp2_with fail
                go_roundw
                case rel => exact ⟨k + 1, Z9, z9, y9, _, _, _, hlt, by first | rfl | go_num, T.out, NI.out, by rw [List.length_append, TL.out]; rfl⟩
                case measure => simp [intOf]; omega
        subst he
        have e0 : ((0 : Int) == 0) = true := by decide
        have wk : IntKind.u64.wrap ((k : Int) + 1) = (k : Int) + 1 := by simp [IntKind.wrap, IntKind.bits, IntKind.signed]; omega
        go_wp2_with fail
        clear kE dk e0
        refine wp_region_held_drew (S := fun _ => True) (by kernel_rfl) trivial (fun hH => ?_)
        replace T := Lib.hid (show Tp w gc n A wr.drew ⟨0, x1, x2, x3, Z1, z1, y1, Z2, z2, y2, none, 0, 0⟩ ts gs [] b 0 from T.out.below (Below.refl _ _).drew)
        generalize wr.drew = wd at T ⊢
        obtain ⟨A9, n9, c9, rq, hA⟩ := T.out.rq
        have hn9 : n9 ≤ 20000 := by have h1 := rq.r.1; have h2 := T.out.len; omega
        have BYb := T.out.by'
        have SM := Lib.hid (rnatr_any (w.heap.size + 1) n9 c9 A9 b 0 wd rq BYb (by omega))
        have MB := sR_bd BYb 0 top
        have NB := sR_by BYb 0 top
        obtain ⟨⟨x10, b10, e10⟩, hr⟩ : ∃ r, sR b 0 top = r := ⟨_, rfl⟩
        unfold SmallE at SM
        rw [hr] at SM MB NB
        dsimp only at SM MB NB
        obtain ⟨ma10, mb10⟩ := MB
        have NI := Lib.hid (rL_next hlt (show gR b 0 = (x10, b10, e10) from hr) INV.out)
        have HA := Lib.hid hA
        have HNB := Lib.hid NB
        clear rq hn9 BYb hr hA NB
        have LT : Hid (gs.length + 1 ≤ 100000) := Lib.hid (by have := TL.out; omega)
        refine wpAnyH_take (i := 0) (v := .pointer (some ⟨gc, 5, none⟩)) rfl (by kernel_rfl) (by kernel_rfl) (by kernel_rfl) (fun _ _ _ h => h) (.inl ⟨by rfl, ?_⟩) (by assumption) ?_
        · intro W hW; go_simp
        try simp only [List.getElem_toArray, List.getElem_cons_zero, Act.put, List.setIfInBounds_toArray, List.set_cons_zero, List.set_cons_succ]
        refine wpAnyH_take (i := 2) (v := .pointer (some ⟨w.heap.size + 1, 0, none⟩)) rfl (by kernel_rfl) (by kernel_rfl) (by kernel_rfl) (fun _ _ _ h => h) (.inl ⟨by rfl, ?_⟩) (by assumption) ?_
        · intro W hW; go_simp
        try simp only [List.getElem_toArray, List.getElem_cons_zero, List.getElem_cons_succ, Act.put, List.setIfInBounds_toArray, List.set_cons_zero, List.set_cons_succ]
        refine wpAnyH_ready (rs := [1, 3]) (by decide +kernel) (by simp) (AllReadyH.cons rfl (fun KQ hK => ?_) (AllReadyH.cons rfl (fun KQ hK => ?_) AllReadyH.nil))
        · skip
          have hcL : wd.cell? ⟨gc, 5, none⟩ = some (.slice Z2 z2 y2) := rv_c15 T.out.box rfl
          go_simp
          refine hK.out _ _ trivial (fun _ => ?_)
          clear hK hcL
          try simp only [List.setIfInBounds_toArray, List.set_cons_zero, List.set_cons_succ]
          refine wpAnyH_ready (rs := [3]) (by decide +kernel) (by simp) (AllReadyH.cons rfl (fun KQ hK => ?_) AllReadyH.nil)
          go_simp
          refine SM.out.mono ?_; rintro e0 Wc ⟨rfl, d⟩
          replace T := Lib.hid (show Tp w gc n A Wc ⟨0, x1, x2, x3, Z1, z1, y1, Z2, z2, y2, none, 0, 0⟩ ts gs [] b10 e10 from T.out.call HA.out d HNB.out.2 HNB.out.1)
          clear d SM
          refine hK.out _ _ trivial (fun _ => ?_)
          clear hK
          try simp only [List.setIfInBounds_toArray, List.set_cons_zero, List.set_cons_succ]
          refine wpAnyH_ready (rs := [4]) (by decide +kernel) (by simp) (AllReadyH.cons rfl (fun KQ hK => ?_) AllReadyH.nil)
          obtain ⟨Wb, hWb⟩ : ∃ W, Wc.alloc (.cells #[.int .u64 x10] 26) = W := ⟨_, rfl⟩
          have RD : Hid (E6w.Rd Wb (some ⟨Wc.heap.size, 0, none⟩) 1 [x10]) := Lib.hid (by rw [← hWb]; exact gbx_rd (gbx_new (E := E6w) Wc x10))
          replace T := Lib.hid (show Tp w gc n A Wb ⟨0, x1, x2, x3, Z1, z1, y1, Z2, z2, y2, none, 0, 0⟩ ts gs [] b10 e10 by rw [← hWb]; exact T.out.below (below_new _ _))
          go_simp
          (try rw [hWb])
          refine hK.out _ _ trivial (fun _ => ?_)
          clear hK hWb
          try simp only [List.setIfInBounds_toArray, List.set_cons_zero, List.set_cons_succ]
          refine wpAnyH_ready (rs := [5]) (by decide +kernel) (by simp) (AllReadyH.cons rfl (fun KQ hK => ?_) AllReadyH.nil)
          rw [if_pos (by rfl)]
          refine n6_wp15 _ _ rfl (w.heap.size + 2) (.slice Z2 z2 y2) gs rfl T.out.og _ 1 1 [x10] rfl RD.out (fun e => by cases e) LT.out (by have := T.out.new; have := tbx_lt15 T.out.box; omega) ?_
          intro v9 w9 o9 g9 _
          obtain ⟨Z9, z9, y9, rfl⟩ := gown_any o9
          have TB := T.out.appG g9 o9
          have hcell : w9.cell? ⟨gc, 5, none⟩ = some (.slice Z2 z2 y2) := rv_c15 TB.1 rfl
          have hfree : w9.frozen? ⟨gc, 5, none⟩ = false := gbx_fz TB.1 5
          replace T := Lib.hid (show Tp w gc n A (w9.setCell ⟨gc, 5, none⟩ (.slice Z9 z9 y9)) ⟨0, x1, x2, x3, Z1, z1, y1, Z9, z9, y9, none, 0, 0⟩ ts (gs ++ [x10]) [] b10 e10 from TB.2)
          clear TB o9 g9 RD
          refine hK.out _ _ trivial (fun _ => ?_)
          clear hK
          try simp only [List.setIfInBounds_toArray, List.set_cons_zero, List.set_cons_succ]
          refine wpAnyH_take (i := 6) (v := .pointer (some ⟨gc, 5, none⟩)) rfl (by kernel_rfl) (by kernel_rfl) (by kernel_rfl) (fun _ _ _ h => h) (.inl ⟨by rfl, ?_⟩) (by assumption) ?_
          · intro W hW; go_simp
          try simp only [List.getElem_toArray, List.getElem_cons_zero, List.getElem_cons_succ, Act.put, List.setIfInBounds_toArray, List.set_cons_zero, List.set_cons_succ]
          refine wpAnyH_ready (rs := [7]) (by decide +kernel) (by simp) (AllReadyH.cons rfl (fun KQ hK => ?_) AllReadyH.nil)
          go_simp
          refine hK.out _ _ trivial (fun _ => ?_)
          clear hK hcell hfree
          try simp only [List.setIfInBounds_toArray, List.set_cons_zero, List.set_cons_succ]
          refine wpAnyH_done (by decide +kernel) ?_ _
          go_wp2_with fail
          go_roundw
          case rel => exact ⟨k + 1, Z9, z9, y9, _, _, _, hlt, by first | rfl | go_num, T.out, NI.out, by rw [List.length_append, TL.out]; rfl⟩
          case measure => simp [intOf]; omega
        · skip
          go_simp
          refine SM.out.mono ?_; rintro e0 Wc ⟨rfl, d⟩
          replace T := Lib.hid (show Tp w gc n A Wc ⟨0, x1, x2, x3, Z1, z1, y1, Z2, z2, y2, none, 0, 0⟩ ts gs [] b10 e10 from T.out.call HA.out d HNB.out.2 HNB.out.1)
          clear d SM
          refine hK.out _ _ trivial (fun _ => ?_)
          clear hK
          try simp only [List.setIfInBounds_toArray, List.set_cons_zero, List.set_cons_succ]
          refine wpAnyH_ready (rs := [1, 4]) (by decide +kernel) (by simp) (AllReadyH.cons rfl (fun KQ hK => ?_) (AllReadyH.cons rfl (fun KQ hK => ?_) AllReadyH.nil))
          · skip
            have hcL : Wc.cell? ⟨gc, 5, none⟩ = some (.slice Z2 z2 y2) := rv_c15 T.out.box rfl
            go_simp
            refine hK.out _ _ trivial (fun _ => ?_)
            clear hK hcL
            try simp only [List.setIfInBounds_toArray, List.set_cons_zero, List.set_cons_succ]
            refine wpAnyH_ready (rs := [4]) (by decide +kernel) (by simp) (AllReadyH.cons rfl (fun KQ hK => ?_) AllReadyH.nil)
            obtain ⟨Wb, hWb⟩ : ∃ W, Wc.alloc (.cells #[.int .u64 x10] 26) = W := ⟨_, rfl⟩
            have RD : Hid (E6w.Rd Wb (some ⟨Wc.heap.size, 0, none⟩) 1 [x10]) := Lib.hid (by rw [← hWb]; exact gbx_rd (gbx_new (E := E6w) Wc x10))
            replace T := Lib.hid (show Tp w gc n A Wb ⟨0, x1, x2, x3, Z1, z1, y1, Z2, z2, y2, none, 0, 0⟩ ts gs [] b10 e10 by rw [← hWb]; exact T.out.below (below_new _ _))
            go_simp
            (try rw [hWb])
            refine hK.out _ _ trivial (fun _ => ?_)
            clear hK hWb
            try simp only [List.setIfInBounds_toArray, List.set_cons_zero, List.set_cons_succ]
            refine wpAnyH_ready (rs := [5]) (by decide +kernel) (by simp) (AllReadyH.cons rfl (fun KQ hK => ?_) AllReadyH.nil)
            rw [if_pos (by rfl)]
            refine n6_wp15 _ _ rfl (w.heap.size + 2) (.slice Z2 z2 y2) gs rfl T.out.og _ 1 1 [x10] rfl RD.out (fun e => by cases e) LT.out (by have := T.out.new; have := tbx_lt15 T.out.box; omega) ?_
            intro v9 w9 o9 g9 _
            obtain ⟨Z9, z9, y9, rfl⟩ := gown_any o9
            have TB := T.out.appG g9 o9
            have hcell : w9.cell? ⟨gc, 5, none⟩ = some (.slice Z2 z2 y2) := rv_c15 TB.1 rfl
            have hfree : w9.frozen? ⟨gc, 5, none⟩ = false := gbx_fz TB.1 5
            replace T := Lib.hid (show Tp w gc n A (w9.setCell ⟨gc, 5, none⟩ (.slice Z9 z9 y9)) ⟨0, x1, x2, x3, Z1, z1, y1, Z9, z9, y9, none, 0, 0⟩ ts (gs ++ [x10]) [] b10 e10 from TB.2)
            clear TB o9 g9 RD
            refine hK.out _ _ trivial (fun _ => ?_)
            clear hK
            try simp only [List.setIfInBounds_toArray, List.set_cons_zero, List.set_cons_succ]
            refine wpAnyH_take (i := 6) (v := .pointer (some ⟨gc, 5, none⟩)) rfl (by kernel_rfl) (by kernel_rfl) (by kernel_rfl) (fun _ _ _ h => h) (.inl ⟨by rfl, ?_⟩) (by assumption) ?_
            · intro W hW; go_simp
            try simp only [List.getElem_toArray, List.getElem_cons_zero, List.getElem_cons_succ, Act.put, List.setIfInBounds_toArray, List.set_cons_zero, List.set_cons_succ]
            refine wpAnyH_ready (rs := [7]) (by decide +kernel) (by simp) (AllReadyH.cons rfl (fun KQ hK => ?_) AllReadyH.nil)
            go_simp
            refine hK.out _ _ trivial (fun _ => ?_)
            clear hK hcell hfree
            try simp only [List.setIfInBounds_toArray, List.set_cons_zero, List.set_cons_succ]
            refine wpAnyH_done (by decide +kernel) ?_ _
            go_wp2_with fail
            go_roundw
            case rel => exact ⟨k + 1, Z9, z9, y9, _, _, _, hlt, by first | rfl | go_num, T.out, NI.out, by rw [List.length_append, TL.out]; rfl⟩
            case measure => simp [intOf]; omega
          · skip
            obtain ⟨Wb, hWb⟩ : ∃ W, Wc.alloc (.cells #[.int .u64 x10] 26) = W := ⟨_, rfl⟩
            have RD : Hid (E6w.Rd Wb (some ⟨Wc.heap.size, 0, none⟩) 1 [x10]) := Lib.hid (by rw [← hWb]; exact gbx_rd (gbx_new (E := E6w) Wc x10))
            replace T := Lib.hid (show Tp w gc n A Wb ⟨0, x1, x2, x3, Z1, z1, y1, Z2, z2, y2, none, 0, 0⟩ ts gs [] b10 e10 by rw [← hWb]; exact T.out.below (below_new _ _))
            go_simp
            (try rw [hWb])
            refine hK.out _ _ trivial (fun _ => ?_)
            clear hK hWb
            try simp only [List.setIfInBounds_toArray, List.set_cons_zero, List.set_cons_succ]
            refine wpAnyH_ready (rs := [1]) (by decide +kernel) (by simp) (AllReadyH.cons rfl (fun KQ hK => ?_) AllReadyH.nil)
            have hcL : Wb.cell? ⟨gc, 5, none⟩ = some (.slice Z2 z2 y2) := rv_c15 T.out.box rfl
            go_simp
            refine hK.out _ _ trivial (fun _ => ?_)
            clear hK hcL
            try simp only [List.setIfInBounds_toArray, List.set_cons_zero, List.set_cons_succ]
            refine wpAnyH_ready (rs := [5]) (by decide +kernel) (by simp) (AllReadyH.cons rfl (fun KQ hK => ?_) AllReadyH.nil)
            rw [if_pos (by rfl)]
            refine n6_wp15 _ _ rfl (w.heap.size + 2) (.slice Z2 z2 y2) gs rfl T.out.og _ 1 1 [x10] rfl RD.out (fun e => by cases e) LT.out (by have := T.out.new; have := tbx_lt15 T.out.box; omega) ?_
            intro v9 w9 o9 g9 _
            obtain ⟨Z9, z9, y9, rfl⟩ := gown_any o9
            have TB := T.out.appG g9 o9
            have hcell : w9.cell? ⟨gc, 5, none⟩ = some (.slice Z2 z2 y2) := rv_c15 TB.1 rfl
            have hfree : w9.frozen? ⟨gc, 5, none⟩ = false := gbx_fz TB.1 5
            replace T := Lib.hid (show Tp w gc n A (w9.setCell ⟨gc, 5, none⟩ (.slice Z9 z9 y9)) ⟨0, x1, x2, x3, Z1, z1, y1, Z9, z9, y9, none, 0, 0⟩ ts (gs ++ [x10]) [] b10 e10 from TB.2)
            clear TB o9 g9 RD
            refine hK.out _ _ trivial (fun _ => ?_)
            clear hK
            try simp only [List.setIfInBounds_toArray, List.set_cons_zero, List.set_cons_succ]
            refine wpAnyH_take (i := 6) (v := .pointer (some ⟨gc, 5, none⟩)) rfl (by kernel_rfl) (by kernel_rfl) (by kernel_rfl) (fun _ _ _ h => h) (.inl ⟨by rfl, ?_⟩) (by assumption) ?_
            · intro W hW; go_simp
            try simp only [List.getElem_toArray, List.getElem_cons_zero, List.getElem_cons_succ, Act.put, List.setIfInBounds_toArray, List.set_cons_zero, List.set_cons_succ]
            refine wpAnyH_ready (rs := [7]) (by decide +kernel) (by simp) (AllReadyH.cons rfl (fun KQ hK => ?_) AllReadyH.nil)
            go_simp
            refine hK.out _ _ trivial (fun _ => ?_)
            clear hK hcell hfree
            try simp only [List.setIfInBounds_toArray, List.set_cons_zero, List.set_cons_succ]
            refine wpAnyH_done (by decide +kernel) ?_ _
            go_wp2_with fail
            go_roundw
            case rel => exact ⟨k + 1, Z9, z9, y9, _, _, _, hlt, by first | rfl | go_num, T.out, NI.out, by rw [List.length_append, TL.out]; rfl⟩
            case measure => simp [intOf]; omega
    have dk : decide ((k : Int) < (m4 : Int)) = true := decide_eq_true (by omega)
    by_cases he : e = 0
    case neg =>
      have NX1 : Hid (rL tR m4 b4 e4 = (ts, b, e)) := Lib.hid (rL_end (.inr he) INV.out)
      have e0 : (e == 0) = false := by simp [he]
      clear INV TL
      obtain ⟨A9, n9, c9, rq, hA⟩ := T.out.rq
      have hn9 : n9 ≤ 20000 := by have h1 := rq.r.1; have h2 := T.out.len; omega
      have BYb := T.out.by'
      have SM := Lib.hid (rsmall_any (w.heap.size + 1) n9 c9 A9 b e 4000 _ rq BYb (by omega))
      have MB := sR_most BYb e (m := 4000) (by decide)
      have NB := sR_by BYb e 4000
      obtain ⟨⟨x11, b11, e11⟩, hr⟩ : ∃ r, sR b e 4000 = r := ⟨_, rfl⟩
      unfold SmallE at SM
      rw [hr] at SM MB NB
      dsimp only at SM MB NB
      obtain ⟨ma11, mb11⟩ := MB
      have HR11 := Lib.hid hr
      clear rq hn9 BYb hr
      go_wp2_with fail
      clear kE
      refine SM.out.mono ?_; rintro en W11 ⟨rfl, d⟩
      replace T := Lib.hid (show Tp w gc n A W11 ⟨0, x1, x2, x3, Z1, z1, y1, none, 0, 0, none, 0, 0⟩ ts [] [] b11 e11 from T.out.call hA d NB.2 NB.1)
      clear d SM hA NB
      obtain ⟨m11, hm⟩ : ∃ k : Nat, x11 = (k : Int) := ⟨x11.toNat, by omega⟩
      subst hm
      have M4 : m11 ≤ 4000 := by omega
      go_wp2_with fail
      go_loopw [9] (fun i wr => ∃ (k : Nat) (Z2 : Option Addr) (z2 y2 : Nat) (gs : List Int) (b : List Int) (e : Int), k ≤ m11 ∧ i = .int .u64 k ∧ Tp w gc n A wr ⟨0, x1, x2, x3, Z1, z1, y1, Z2, z2, y2, none, 0, 0⟩ ts gs [] b e ∧ rL gR m11 b11 e11 = (gs ++ (rL gR (m11 - k) b e).1, (rL gR (m11 - k) b e).2) ∧ gs.length = k) (fun i _ => m11 - (intOf i).toNat)
      case atStart => exact ⟨0, none, 0, 0, [], _, _, Nat.zero_le _, rfl, T.out, by simp, rfl⟩
      case round =>
        obtain ⟨k, Z2, z2, y2, gs, b, e, hk, rfl, tp, inv, tl⟩ := hrel
        replace T := Lib.hid tp
        have INV := Lib.hid inv
        have TL := Lib.hid tl
        clear tp inv tl
        obtain ⟨A5, n5, c5, rq5, hA5⟩ := T.out.rq
        have kE := rq5.c1
        clear rq5 hA5
        by_cases hlt : k < m11
        case neg =>
          have NX2 : Hid (rL gR m11 b11 e11 = (gs, b, e)) := Lib.hid (rL_end (.inl (by omega)) INV.out)
          have dk : decide ((k : Int) < (m11 : Int)) = false := decide_eq_false (by omega)
          clear INV TL
          obtain ⟨A9, n9, c9, rq, hA⟩ := T.out.rq
          have hn9 : n9 ≤ 20000 := by have h1 := rq.r.1; have h2 := T.out.len; omega
          have BYb := T.out.by'
          have SM := Lib.hid (rsmall_any (w.heap.size + 1) n9 c9 A9 b e 4000 _ rq BYb (by omega))
          have MB := sR_most BYb e (m := 4000) (by decide)
          have NB := sR_by BYb e 4000
          obtain ⟨⟨x12, b12, e12⟩, hr⟩ : ∃ r, sR b e 4000 = r := ⟨_, rfl⟩
          unfold SmallE at SM
          rw [hr] at SM MB NB
          dsimp only at SM MB NB
          obtain ⟨ma12, mb12⟩ := MB
          have HR12 := Lib.hid hr
          clear rq hn9 BYb hr
          go_wp2_with fail
          clear kE
          refine SM.out.mono ?_; rintro en W12 ⟨rfl, d⟩
          replace T := Lib.hid (show Tp w gc n A W12 ⟨0, x1, x2, x3, Z1, z1, y1, Z2, z2, y2, none, 0, 0⟩ ts gs [] b12 e12 from T.out.call hA d NB.2 NB.1)
          clear d SM hA NB
          obtain ⟨m12, hm⟩ : ∃ k : Nat, x12 = (k : Int) := ⟨x12.toNat, by omega⟩
          subst hm
          have M4 : m12 ≤ 4000 := by omega
          go_wp2_with fail
          go_loopw [10] (fun i wr => ∃ (k : Nat) (Z3 : Option Addr) (z3 y3 : Nat) (as1 : List Int) (b : List Int) (e : Int), k ≤ m12 ∧ i = .int .u64 k ∧ Tp w gc n A wr ⟨0, x1, x2, x3, Z1, z1, y1, Z2, z2, y2, Z3, z3, y3⟩ ts gs as1 b e ∧ rL aR m12 b12 e12 = (as1 ++ (rL aR (m12 - k) b e).1, (rL aR (m12 - k) b e).2) ∧ as1.length = k) (fun i _ => m12 - (intOf i).toNat)
          case atStart => exact ⟨0, none, 0, 0, [], _, _, Nat.zero_le _, rfl, T.out, by simp, rfl⟩
          case round =>
            obtain ⟨k, Z3, z3, y3, as1, b, e, hk, rfl, tp, inv, tl⟩ := hrel
            replace T := Lib.hid tp
            have INV := Lib.hid inv
            have TL := Lib.hid tl
            clear tp inv tl
            obtain ⟨A5, n5, c5, rq5, hA5⟩ := T.out.rq
            have kE := rq5.c1
            clear rq5 hA5
            by_cases hlt : k < m12
            case neg =>
              have NX3 : Hid (rL aR m12 b12 e12 = (as1, b, e)) := Lib.hid (rL_end (.inl (by omega)) INV.out)
              have dk : decide ((k : Int) < (m12 : Int)) = false := decide_eq_false (by omega)
              clear INV TL
              have PRE : Hid (pR bs = (⟨0, x1, x2, x3, ts, gs, as1⟩, b, e)) := Lib.hid (by
                unfold pR
                rw [HR.out]
                rw [if_pos ⟨rfl, rfl⟩]
                simp only [nL, HR1.out, HR2.out, HR3.out, HR4.out, HR11.out, HR12.out, Int.toNat_natCast, NX1.out, NX2.out, NX3.out])
              clear NX1 NX2 NX3 HR1 HR2 HR3 HR4 HR11 HR12
              obtain ⟨A9, n9, c9, rq, hA⟩ := T.out.rq
              have hn9 : n9 ≤ 20000 := by have h1 := rq.r.1; have h2 := T.out.len; omega
              obtain ⟨bL, hbL⟩ : ∃ x, b = x := ⟨_, rfl⟩
              obtain ⟨eL, heL⟩ : ∃ x, e = x := ⟨_, rfl⟩
              have DN := Lib.hid (rdone_any (w.heap.size + 1) n9 c9 A9 b e wr rq (by omega))
              obtain ⟨D, hD⟩ : ∃ D, (if e = 0 ∧ 0 < (b).length then (5 : Int) else e) = D := ⟨_, rfl⟩
              rw [hD] at DN
              have YES : Hid (D = 0 → IsR bs ⟨0, x1, x2, x3, ts, gs, as1⟩) := Lib.hid fun h0 => by
                have e2 : (pR bs).2 = ([], 0) := by
                  rw [PRE.out]
                  rw [← hD] at h0
                  by_cases c : e = 0 ∧ 0 < (b).length
                  · rw [if_pos c] at h0; omega
                  · rw [if_neg c] at h0
                    have l0 : b = [] := List.eq_nil_of_length_eq_zero (by omega)
                    show (b, e) = _
                    rw [l0, h0]
                have := pR_back BY.out e2
                rw [PRE.out] at this
                exact this
              have NO : Hid (D ≠ 0 → ∀ d, ¬ IsR bs d) := Lib.hid fun h0 => pR_none (by
                rw [PRE.out]
                intro c
                have c1 : b = [] := congrArg Prod.fst c
                have c2 : e = 0 := congrArg Prod.snd c
                apply h0
                rw [← hD, c1, c2]
                rfl)
              clear rq hn9 hA hD hbL heL
              go_wp2_with fail
              refine DN.out.mono ?_; rintro en wd ⟨rfl, hwd⟩
              subst hwd
              by_cases d0 : D = 0
              case neg =>
                have dd : (D != 0) = true := by simp [d0]
                have NN := Lib.hid (NO.out d0)
                obtain ⟨z, hz⟩ := T.out.res
                have HZ := Lib.hid hz
                obtain ⟨Wz, hWz⟩ : ∃ W, wr.setRow w.heap.size (ERv.cells zeroRv).toArray = W := ⟨_, rfl⟩
                have TT := T.out.told (x := zeroRv)
                rw [hWz] at TT
                have TL := Lib.hid TT
                have HWz := Lib.hid hWz
                clear d0 hz hWz TT
                go_wp2_with (refine rwl_store TRv zeroRv w.heap.size HZ.out rfl rfl ?_; rw [HWz.out])
                (try simp only [Exit.inBlock, Exit.then])
                refine bodyPost_ret (rret TRv rfl _ Wz w.heap.size rfl rfl TL.out.1) rfl ?_
                exact ⟨zeroRv, zeroRw, 5, rfl, errV_ok 0, errV_in 0 Wz, .inr ⟨NN.out, rfl, rfl⟩, TL.out.2.2.2⟩
              subst d0
              have IS := Lib.hid (YES.out rfl)
              obtain ⟨z, hz⟩ := T.out.res
              have HZ := Lib.hid hz
              have XB := Lib.hid (gbx_rng T.out.box)
              obtain ⟨Wz, hWz⟩ : ∃ W, wr.setRow w.heap.size (ERv.cells (⟨0, x1, x2, x3, Z1, z1, y1, Z2, z2, y2, Z3, z3, y3⟩ : Rv)).toArray = W := ⟨_, rfl⟩
              have TT := T.out.told (x := (⟨0, x1, x2, x3, Z1, z1, y1, Z2, z2, y2, Z3, z3, y3⟩ : Rv))
              rw [hWz] at TT
              have TL := Lib.hid TT
              have HWz := Lib.hid hWz
              clear hz hWz TT
              go_wp2_with (first | ((with_reducible refine rwl_load TRv gc 0 XB.out ?_ ?_ ?_); rfl; rfl) | (refine rwl_store TRv (⟨0, x1, x2, x3, Z1, z1, y1, Z2, z2, y2, Z3, z3, y3⟩ : Rv) w.heap.size HZ.out rfl rfl ?_; rw [HWz.out]))
              (try simp only [Exit.inBlock, Exit.then])
              refine bodyPost_ret (rret TRv rfl _ Wz w.heap.size rfl rfl TL.out.1) rfl ?_
              exact ⟨(⟨0, x1, x2, x3, Z1, z1, y1, Z2, z2, y2, Z3, z3, y3⟩ : Rv), ⟨0, x1, x2, x3, ts, gs, as1⟩, 0, rfl, TL.out.2.1, TL.out.2.2.1, .inl ⟨IS.out, rfl⟩, TL.out.2.2.2⟩
            have dk : decide ((k : Int) < (m12 : Int)) = true := decide_eq_true (by omega)
            by_cases he : e = 0
            case neg =>
              have NX3 : Hid (rL aR m12 b12 e12 = (as1, b, e)) := Lib.hid (rL_end (.inr he) INV.out)
              have e0 : (e == 0) = false := by simp [he]
              clear INV TL
              have PRE : Hid (pR bs = (⟨0, x1, x2, x3, ts, gs, as1⟩, b, e)) := Lib.hid (by
                unfold pR
                rw [HR.out]
                rw [if_pos ⟨rfl, rfl⟩]
                simp only [nL, HR1.out, HR2.out, HR3.out, HR4.out, HR11.out, HR12.out, Int.toNat_natCast, NX1.out, NX2.out, NX3.out])
              clear NX1 NX2 NX3 HR1 HR2 HR3 HR4 HR11 HR12
              obtain ⟨A9, n9, c9, rq, hA⟩ := T.out.rq
              have hn9 : n9 ≤ 20000 := by have h1 := rq.r.1; have h2 := T.out.len; omega
              obtain ⟨bL, hbL⟩ : ∃ x, b = x := ⟨_, rfl⟩
              obtain ⟨eL, heL⟩ : ∃ x, e = x := ⟨_, rfl⟩
              have DN := Lib.hid (rdone_any (w.heap.size + 1) n9 c9 A9 b e wr rq (by omega))
              obtain ⟨D, hD⟩ : ∃ D, (if e = 0 ∧ 0 < (b).length then (5 : Int) else e) = D := ⟨_, rfl⟩
              rw [hD] at DN
              have YES : Hid (D = 0 → IsR bs ⟨0, x1, x2, x3, ts, gs, as1⟩) := Lib.hid fun h0 => by
                have e2 : (pR bs).2 = ([], 0) := by
                  rw [PRE.out]
                  rw [← hD] at h0
                  by_cases c : e = 0 ∧ 0 < (b).length
                  · rw [if_pos c] at h0; omega
                  · rw [if_neg c] at h0
                    have l0 : b = [] := List.eq_nil_of_length_eq_zero (by omega)
                    show (b, e) = _
                    rw [l0, h0]
                have := pR_back BY.out e2
                rw [PRE.out] at this
                exact this
              have NO : Hid (D ≠ 0 → ∀ d, ¬ IsR bs d) := Lib.hid fun h0 => pR_none (by
                rw [PRE.out]
                intro c
                have c1 : b = [] := congrArg Prod.fst c
                have c2 : e = 0 := congrArg Prod.snd c
                apply h0
                rw [← hD, c1, c2]
                rfl)
              clear rq hn9 hA hD hbL heL
              go_wp2_with fail
              refine DN.out.mono ?_; rintro en wd ⟨rfl, hwd⟩
              subst hwd
              by_cases d0 : D = 0
              case neg =>
                have dd : (D != 0) = true := by simp [d0]
                have NN := Lib.hid (NO.out d0)
                obtain ⟨z, hz⟩ := T.out.res
                have HZ := Lib.hid hz
                obtain ⟨Wz, hWz⟩ : ∃ W, wr.setRow w.heap.size (ERv.cells zeroRv).toArray = W := ⟨_, rfl⟩
                have TT := T.out.told (x := zeroRv)
                rw [hWz] at TT
                have TL := Lib.hid TT
                have HWz := Lib.hid hWz
                clear d0 hz hWz TT
                go_wp2_with (refine rwl_store TRv zeroRv w.heap.size HZ.out rfl rfl ?_; rw [HWz.out])
                (try simp only [Exit.inBlock, Exit.then])
                refine bodyPost_ret (rret TRv rfl _ Wz w.heap.size rfl rfl TL.out.1) rfl ?_
                exact ⟨zeroRv, zeroRw, 5, rfl, errV_ok 0, errV_in 0 Wz, .inr ⟨NN.out, rfl, rfl⟩, TL.out.2.2.2⟩
              subst d0
              have IS := Lib.hid (YES.out rfl)
              obtain ⟨z, hz⟩ := T.out.res
              have HZ := Lib.hid hz
              have XB := Lib.hid (gbx_rng T.out.box)
              obtain ⟨Wz, hWz⟩ : ∃ W, wr.setRow w.heap.size (ERv.cells (⟨0, x1, x2, x3, Z1, z1, y1, Z2, z2, y2, Z3, z3, y3⟩ : Rv)).toArray = W := ⟨_, rfl⟩
              have TT := T.out.told (x := (⟨0, x1, x2, x3, Z1, z1, y1, Z2, z2, y2, Z3, z3, y3⟩ : Rv))
              rw [hWz] at TT
              have TL := Lib.hid TT
              have HWz := Lib.hid hWz
              clear hz hWz TT
              go_wp2_with (first | ((with_reducible refine rwl_load TRv gc 0 XB.out ?_ ?_ ?_); rfl; rfl) | (refine rwl_store TRv (⟨0, x1, x2, x3, Z1, z1, y1, Z2, z2, y2, Z3, z3, y3⟩ : Rv) w.heap.size HZ.out rfl rfl ?_; rw [HWz.out]))
              (try simp only [Exit.inBlock, Exit.then])
              refine bodyPost_ret (rret TRv rfl _ Wz w.heap.size rfl rfl TL.out.1) rfl ?_
              exact ⟨(⟨0, x1, x2, x3, Z1, z1, y1, Z2, z2, y2, Z3, z3, y3⟩ : Rv), ⟨0, x1, x2, x3, ts, gs, as1⟩, 0, rfl, TL.out.2.1, TL.out.2.2.1, .inl ⟨IS.out, rfl⟩, TL.out.2.2.2⟩
            subst he
            have e0 : ((0 : Int) == 0) = true := by decide
            have wk : IntKind.u64.wrap ((k : Int) + 1) = (k : Int) + 1 := by simp [IntKind.wrap, IntKind.bits, IntKind.signed]; omega
            go_wp2_with fail
            clear kE dk e0
            refine wp_region_held_drew (S := fun _ => True) (by kernel_rfl) trivial (fun hH => ?_)
            replace T := Lib.hid (show Tp w gc n A wr.drew ⟨0, x1, x2, x3, Z1, z1, y1, Z2, z2, y2, Z3, z3, y3⟩ ts gs as1 b 0 from T.out.below (Below.refl _ _).drew)
            generalize wr.drew = wd at T ⊢
            obtain ⟨A9, n9, c9, rq, hA⟩ := T.out.rq
            have hn9 : n9 ≤ 20000 := by have h1 := rq.r.1; have h2 := T.out.len; omega
            have BYb := T.out.by'
            have SM := Lib.hid (rsmall_any (w.heap.size + 1) n9 c9 A9 b 0 4294967295 wd rq BYb (by omega))
            have MB := sR_most BYb 0 (m := 4294967295) (by decide)
            have NB := sR_by BYb 0 4294967295
            obtain ⟨⟨x13, b13, e13⟩, hr⟩ : ∃ r, sR b 0 4294967295 = r := ⟨_, rfl⟩
            unfold SmallE at SM
            rw [hr] at SM MB NB
            dsimp only at SM MB NB
            obtain ⟨ma13, mb13⟩ := MB
            have NI := Lib.hid (rL_next hlt (show aR b 0 = (x13, b13, e13) from hr) INV.out)
            have HA := Lib.hid hA
            have HNB := Lib.hid NB
            clear rq hn9 BYb hr hA NB
            have LT : Hid (as1.length + 1 ≤ 100000) := Lib.hid (by have := TL.out; omega)
            have wu : IntKind.u32.wrap x13 = x13 := by simp [IntKind.wrap, IntKind.bits, IntKind.signed]; omega
            refine wpAnyH_take (i := 0) (v := .pointer (some ⟨gc, 6, none⟩)) rfl (by kernel_rfl) (by kernel_rfl) (by kernel_rfl) (fun _ _ _ h => h) (.inl ⟨by rfl, ?_⟩) (by assumption) ?_
            · intro W hW; go_simp
            try simp only [List.getElem_toArray, List.getElem_cons_zero, Act.put, List.setIfInBounds_toArray, List.set_cons_zero, List.set_cons_succ]
            refine wpAnyH_take (i := 2) (v := .pointer (some ⟨w.heap.size + 1, 0, none⟩)) rfl (by kernel_rfl) (by kernel_rfl) (by kernel_rfl) (fun _ _ _ h => h) (.inl ⟨by rfl, ?_⟩) (by assumption) ?_
            · intro W hW; go_simp
            try simp only [List.getElem_toArray, List.getElem_cons_zero, List.getElem_cons_succ, Act.put, List.setIfInBounds_toArray, List.set_cons_zero, List.set_cons_succ]
            refine wpAnyH_ready (rs := [1, 3]) (by decide +kernel) (by simp) (AllReadyH.cons rfl (fun KQ hK => ?_) (AllReadyH.cons rfl (fun KQ hK => ?_) AllReadyH.nil))
            · skip
              have hcL : wd.cell? ⟨gc, 6, none⟩ = some (.slice Z3 z3 y3) := rv_c15 T.out.box rfl
              go_simp
              refine hK.out _ _ trivial (fun _ => ?_)
              clear hK hcL
              try simp only [List.setIfInBounds_toArray, List.set_cons_zero, List.set_cons_succ]
              refine wpAnyH_ready (rs := [3]) (by decide +kernel) (by simp) (AllReadyH.cons rfl (fun KQ hK => ?_) AllReadyH.nil)
              go_simp
              refine SM.out.mono ?_; rintro e0 Wc ⟨rfl, d⟩
              replace T := Lib.hid (show Tp w gc n A Wc ⟨0, x1, x2, x3, Z1, z1, y1, Z2, z2, y2, Z3, z3, y3⟩ ts gs as1 b13 e13 from T.out.call HA.out d HNB.out.2 HNB.out.1)
              clear d SM
              refine hK.out _ _ trivial (fun _ => ?_)
              clear hK
              try simp only [List.setIfInBounds_toArray, List.set_cons_zero, List.set_cons_succ]
              refine wpAnyH_take (i := 4) (v := .int .u32 x13) rfl (by kernel_rfl) (by kernel_rfl) (by kernel_rfl) (fun _ _ _ h => h) (.inl ⟨by rfl, ?_⟩) (by assumption) ?_
              · intro W hW; go_simp
              try simp only [List.getElem_toArray, List.getElem_cons_zero, List.getElem_cons_succ, Act.put, List.setIfInBounds_toArray, List.set_cons_zero, List.set_cons_succ]
              refine wpAnyH_ready (rs := [5]) (by decide +kernel) (by simp) (AllReadyH.cons rfl (fun KQ hK => ?_) AllReadyH.nil)
              obtain ⟨Wb, hWb⟩ : ∃ W, Wc.alloc (.cells #[.int .u32 x13] 25) = W := ⟨_, rfl⟩
              have RD : Hid (E3w.Rd Wb (some ⟨Wc.heap.size, 0, none⟩) 1 [x13]) := Lib.hid (by rw [← hWb]; exact gbx_rd (gbx_new (E := E3w) Wc x13))
              replace T := Lib.hid (show Tp w gc n A Wb ⟨0, x1, x2, x3, Z1, z1, y1, Z2, z2, y2, Z3, z3, y3⟩ ts gs as1 b13 e13 by rw [← hWb]; exact T.out.below (below_new _ _))
              go_simp
              (try rw [hWb])
              refine hK.out _ _ trivial (fun _ => ?_)
              clear hK hWb
              try simp only [List.setIfInBounds_toArray, List.set_cons_zero, List.set_cons_succ]
              refine wpAnyH_ready (rs := [6]) (by decide +kernel) (by simp) (AllReadyH.cons rfl (fun KQ hK => ?_) AllReadyH.nil)
              rw [if_pos (by rfl)]
              refine n3_wp15 _ _ rfl (w.heap.size + 2) (.slice Z3 z3 y3) as1 rfl T.out.oa _ 1 1 [x13] rfl RD.out (fun e => by cases e) LT.out (by have := T.out.new; have := tbx_lt15 T.out.box; omega) ?_
              intro v9 w9 o9 g9 _
              obtain ⟨Z9, z9, y9, rfl⟩ := gown_any o9
              have TB := T.out.appA g9 o9
              have hcell : w9.cell? ⟨gc, 6, none⟩ = some (.slice Z3 z3 y3) := rv_c15 TB.1 rfl
              have hfree : w9.frozen? ⟨gc, 6, none⟩ = false := gbx_fz TB.1 6
              replace T := Lib.hid (show Tp w gc n A (w9.setCell ⟨gc, 6, none⟩ (.slice Z9 z9 y9)) ⟨0, x1, x2, x3, Z1, z1, y1, Z2, z2, y2, Z9, z9, y9⟩ ts gs (as1 ++ [x13]) b13 e13 from TB.2)
              clear TB o9 g9 RD
              refine hK.out _ _ trivial (fun _ => ?_)
              clear hK
              try simp only [List.setIfInBounds_toArray, List.set_cons_zero, List.set_cons_succ]
              refine wpAnyH_take (i := 7) (v := .pointer (some ⟨gc, 6, none⟩)) rfl (by kernel_rfl) (by kernel_rfl) (by kernel_rfl) (fun _ _ _ h => h) (.inl ⟨by rfl, ?_⟩) (by assumption) ?_
              · intro W hW; go_simp
              try simp only [List.getElem_toArray, List.getElem_cons_zero, List.getElem_cons_succ, Act.put, List.setIfInBounds_toArray, List.set_cons_zero, List.set_cons_succ]
              refine wpAnyH_ready (rs := [8]) (by decide +kernel) (by simp) (AllReadyH.cons rfl (fun KQ hK => ?_) AllReadyH.nil)
              go_simp
              refine hK.out _ _ trivial (fun _ => ?_)
              clear hK hcell hfree
              try simp only [List.setIfInBounds_toArray, List.set_cons_zero, List.set_cons_succ]
              refine wpAnyH_done (by decide +kernel) ?_ _
              go_wp2_with fail
              go_roundw
              case rel => exact ⟨k + 1, Z9, z9, y9, _, _, _, hlt, by first | rfl | go_num, T.out, NI.out, by rw [List.length_append, TL.out]; rfl⟩
              case measure => simp [intOf]; omega
            · skip
              go_simp
              refine SM.out.mono ?_; rintro e0 Wc ⟨rfl, d⟩
              replace T := Lib.hid (show Tp w gc n A Wc ⟨0, x1, x2, x3, Z1, z1, y1, Z2, z2, y2, Z3, z3, y3⟩ ts gs as1 b13 e13 from T.out.call HA.out d HNB.out.2 HNB.out.1)
              clear d SM
              refine hK.out _ _ trivial (fun _ => ?_)
              clear hK
              try simp only [List.setIfInBounds_toArray, List.set_cons_zero, List.set_cons_succ]
              refine wpAnyH_take (i := 4) (v := .int .u32 x13) rfl (by kernel_rfl) (by kernel_rfl) (by kernel_rfl) (fun _ _ _ h => h) (.inl ⟨by rfl, ?_⟩) (by assumption) ?_
              · intro W hW; go_simp
              try simp only [List.getElem_toArray, List.getElem_cons_zero, List.getElem_cons_succ, Act.put, List.setIfInBounds_toArray, List.set_cons_zero, List.set_cons_succ]
              refine wpAnyH_ready (rs := [1, 5]) (by decide +kernel) (by simp) (AllReadyH.cons rfl (fun KQ hK => ?_) (AllReadyH.cons rfl (fun KQ hK => ?_) AllReadyH.nil))
              · skip
                have hcL : Wc.cell? ⟨gc, 6, none⟩ = some (.slice Z3 z3 y3) := rv_c15 T.out.box rfl
                go_simp
                refine hK.out _ _ trivial (fun _ => ?_)
                clear hK hcL
                try simp only [List.setIfInBounds_toArray, List.set_cons_zero, List.set_cons_succ]
                refine wpAnyH_ready (rs := [5]) (by decide +kernel) (by simp) (AllReadyH.cons rfl (fun KQ hK => ?_) AllReadyH.nil)
                obtain ⟨Wb, hWb⟩ : ∃ W, Wc.alloc (.cells #[.int .u32 x13] 25) = W := ⟨_, rfl⟩
                have RD : Hid (E3w.Rd Wb (some ⟨Wc.heap.size, 0, none⟩) 1 [x13]) := Lib.hid (by rw [← hWb]; exact gbx_rd (gbx_new (E := E3w) Wc x13))
                replace T := Lib.hid (show Tp w gc n A Wb ⟨0, x1, x2, x3, Z1, z1, y1, Z2, z2, y2, Z3, z3, y3⟩ ts gs as1 b13 e13 by rw [← hWb]; exact T.out.below (below_new _ _))
                go_simp
                (try rw [hWb])
                refine hK.out _ _ trivial (fun _ => ?_)
                clear hK hWb
                try simp only [List.setIfInBounds_toArray, List.set_cons_zero, List.set_cons_succ]
                refine wpAnyH_ready (rs := [6]) (by decide +kernel) (by simp) (AllReadyH.cons rfl (fun KQ hK => ?_) AllReadyH.nil)
                rw [if_pos (by rfl)]
                refine n3_wp15 _ _ rfl (w.heap.size + 2) (.slice Z3 z3 y3) as1 rfl T.out.oa _ 1 1 [x13] rfl RD.out (fun e => by cases e) LT.out (by have := T.out.new; have := tbx_lt15 T.out.box; omega) ?_
                intro v9 w9 o9 g9 _
                obtain ⟨Z9, z9, y9, rfl⟩ := gown_any o9
                have TB := T.out.appA g9 o9
                have hcell : w9.cell? ⟨gc, 6, none⟩ = some (.slice Z3 z3 y3) := rv_c15 TB.1 rfl
                have hfree : w9.frozen? ⟨gc, 6, none⟩ = false := gbx_fz TB.1 6
                replace T := Lib.hid (show Tp w gc n A (w9.setCell ⟨gc, 6, none⟩ (.slice Z9 z9 y9)) ⟨0, x1, x2, x3, Z1, z1, y1, Z2, z2, y2, Z9, z9, y9⟩ ts gs (as1 ++ [x13]) b13 e13 from TB.2)
                clear TB o9 g9 RD
                refine hK.out _ _ trivial (fun _ => ?_)
                clear hK
                try simp only [List.setIfInBounds_toArray, List.set_cons_zero, List.set_cons_succ]
                refine wpAnyH_take (i := 7) (v := .pointer (some ⟨gc, 6, none⟩)) rfl (by kernel_rfl) (by kernel_rfl) (by kernel_rfl) (fun _ _ _ h => h) (.inl ⟨by rfl, ?_⟩) (by assumption) ?_
                · intro W hW; go_simp
                try simp only [List.getElem_toArray, List.getElem_cons_zero, List.getElem_cons_succ, Act.put, List.setIfInBounds_toArray, List.set_cons_zero, List.set_cons_succ]
                refine wpAnyH_ready (rs := [8]) (by decide +kernel) (by simp) (AllReadyH.cons rfl (fun KQ hK => ?_) AllReadyH.nil)
                go_simp
                refine hK.out _ _ trivial (fun _ => ?_)
                clear hK hcell hfree
                try simp only [List.setIfInBounds_toArray, List.set_cons_zero, List.set_cons_succ]
                refine wpAnyH_done (by decide +kernel) ?_ _
                go_wp2_with fail
                go_roundw
                case rel => exact ⟨k + 1, Z9, z9, y9, _, _, _, hlt, by first | rfl | go_num, T.out, NI.out, by rw [List.length_append, TL.out]; rfl⟩
                case measure => simp [intOf]; omega
              · skip
                obtain ⟨Wb, hWb⟩ : ∃ W, Wc.alloc (.cells #[.int .u32 x13] 25) = W := ⟨_, rfl⟩
                have RD : Hid (E3w.Rd Wb (some ⟨Wc.heap.size, 0, none⟩) 1 [x13]) := Lib.hid (by rw [← hWb]; exact gbx_rd (gbx_new (E := E3w) Wc x13))
                replace T := Lib.hid (show Tp w gc n A Wb ⟨0, x1, x2, x3, Z1, z1, y1, Z2, z2, y2, Z3, z3, y3⟩ ts gs as1 b13 e13 by rw [← hWb]; exact T.out.below (below_new _ _))
                go_simp
                (try rw [hWb])
                refine hK.out _ _ trivial (fun _ => ?_)
                clear hK hWb
                try simp only [List.setIfInBounds_toArray, List.set_cons_zero, List.set_cons_succ]
                refine wpAnyH_ready (rs := [1]) (by decide +kernel) (by simp) (AllReadyH.cons rfl (fun KQ hK => ?_) AllReadyH.nil)
                have hcL : Wb.cell? ⟨gc, 6, none⟩ = some (.slice Z3 z3 y3) := rv_c15 T.out.box rfl
                go_simp
                refine hK.out _ _ trivial (fun _ => ?_)
                clear hK hcL
                try simp only [List.setIfInBounds_toArray, List.set_cons_zero, List.set_cons_succ]
                refine wpAnyH_ready (rs := [6]) (by decide +kernel) (by simp) (AllReadyH.cons rfl (fun KQ hK => ?_) AllReadyH.nil)
                rw [if_pos (by rfl)]
                refine n3_wp15 _ _ rfl (w.heap.size + 2) (.slice Z3 z3 y3) as1 rfl T.out.oa _ 1 1 [x13] rfl RD.out (fun e => by cases e) LT.out (by have := T.out.new; have := tbx_lt15 T.out.box; omega) ?_
                intro v9 w9 o9 g9 _
                obtain ⟨Z9, z9, y9, rfl⟩ := gown_any o9
                have TB := T.out.appA g9 o9
                have hcell : w9.cell? ⟨gc, 6, none⟩ = some (.slice Z3 z3 y3) := rv_c15 TB.1 rfl
                have hfree : w9.frozen? ⟨gc, 6, none⟩ = false := gbx_fz TB.1 6
                replace T := Lib.hid (show Tp w gc n A (w9.setCell ⟨gc, 6, none⟩ (.slice Z9 z9 y9)) ⟨0, x1, x2, x3, Z1, z1, y1, Z2, z2, y2, Z9, z9, y9⟩ ts gs (as1 ++ [x13]) b13 e13 from TB.2)
                clear TB o9 g9 RD
                refine hK.out _ _ trivial (fun _ => ?_)
                clear hK
                try simp only [List.setIfInBounds_toArray, List.set_cons_zero, List.set_cons_succ]
                refine wpAnyH_take (i := 7) (v := .pointer (some ⟨gc, 6, none⟩)) rfl (by kernel_rfl) (by kernel_rfl) (by kernel_rfl) (fun _ _ _ h => h) (.inl ⟨by rfl, ?_⟩) (by assumption) ?_
                · intro W hW; go_simp
                try simp only [List.getElem_toArray, List.getElem_cons_zero, List.getElem_cons_succ, Act.put, List.setIfInBounds_toArray, List.set_cons_zero, List.set_cons_succ]
                refine wpAnyH_ready (rs := [8]) (by decide +kernel) (by simp) (AllReadyH.cons rfl (fun KQ hK => ?_) AllReadyH.nil)
                go_simp
                refine hK.out _ _ trivial (fun _ => ?_)
                clear hK hcell hfree
                try simp only [List.setIfInBounds_toArray, List.set_cons_zero, List.set_cons_succ]
                refine wpAnyH_done (by decide +kernel) ?_ _
                go_wp2_with fail
                go_roundw
                case rel => exact ⟨k + 1, Z9, z9, y9, _, _, _, hlt, by first | rfl | go_num, T.out, NI.out, by rw [List.length_append, TL.out]; rfl⟩
                case measure => simp [intOf]; omega
        have dk : decide ((k : Int) < (m11 : Int)) = true := decide_eq_true (by omega)
        by_cases he : e = 0
        case neg =>
          have NX2 : Hid (rL gR m11 b11 e11 = (gs, b, e)) := Lib.hid (rL_end (.inr he) INV.out)
          have e0 : (e == 0) = false := by simp [he]
          clear INV TL
          obtain ⟨A9, n9, c9, rq, hA⟩ := T.out.rq
          have hn9 : n9 ≤ 20000 := by have h1 := rq.r.1; have h2 := T.out.len; omega
          have BYb := T.out.by'
          have SM := Lib.hid (rsmall_any (w.heap.size + 1) n9 c9 A9 b e 4000 _ rq BYb (by omega))
          have MB := sR_most BYb e (m := 4000) (by decide)
          have NB := sR_by BYb e 4000
          obtain ⟨⟨x14, b14, e14⟩, hr⟩ : ∃ r, sR b e 4000 = r := ⟨_, rfl⟩
          unfold SmallE at SM
          rw [hr] at SM MB NB
          dsimp only at SM MB NB
          obtain ⟨ma14, mb14⟩ := MB
          have HR14 := Lib.hid hr
          clear rq hn9 BYb hr
          go_wp2_with fail
          clear kE
          refine SM.out.mono ?_; rintro en W14 ⟨rfl, d⟩
          replace T := Lib.hid (show Tp w gc n A W14 ⟨0, x1, x2, x3, Z1, z1, y1, Z2, z2, y2, none, 0, 0⟩ ts gs [] b14 e14 from T.out.call hA d NB.2 NB.1)
          clear d SM hA NB
          obtain ⟨m14, hm⟩ : ∃ k : Nat, x14 = (k : Int) := ⟨x14.toNat, by omega⟩
          subst hm
          have M4 : m14 ≤ 4000 := by omega
          go_wp2_with fail
          go_loopw [10] (fun i wr => ∃ (k : Nat) (Z3 : Option Addr) (z3 y3 : Nat) (as1 : List Int) (b : List Int) (e : Int), k ≤ m14 ∧ i = .int .u64 k ∧ Tp w gc n A wr ⟨0, x1, x2, x3, Z1, z1, y1, Z2, z2, y2, Z3, z3, y3⟩ ts gs as1 b e ∧ rL aR m14 b14 e14 = (as1 ++ (rL aR (m14 - k) b e).1, (rL aR (m14 - k) b e).2) ∧ as1.length = k) (fun i _ => m14 - (intOf i).toNat)
          case atStart => exact ⟨0, none, 0, 0, [], _, _, Nat.zero_le _, rfl, T.out, by simp, rfl⟩
          case round =>
            obtain ⟨k, Z3, z3, y3, as1, b, e, hk, rfl, tp, inv, tl⟩ := hrel
            replace T := Lib.hid tp
            have INV := Lib.hid inv
            have TL := Lib.hid tl
            clear tp inv tl
            obtain ⟨A5, n5, c5, rq5, hA5⟩ := T.out.rq
            have kE := rq5.c1
            clear rq5 hA5
            by_cases hlt : k < m14
            case neg =>
              have NX3 : Hid (rL aR m14 b14 e14 = (as1, b, e)) := Lib.hid (rL_end (.inl (by omega)) INV.out)
              have dk : decide ((k : Int) < (m14 : Int)) = false := decide_eq_false (by omega)
              clear INV TL
              have PRE : Hid (pR bs = (⟨0, x1, x2, x3, ts, gs, as1⟩, b, e)) := Lib.hid (by
                unfold pR
                rw [HR.out]
                rw [if_pos ⟨rfl, rfl⟩]
                simp only [nL, HR1.out, HR2.out, HR3.out, HR4.out, HR11.out, HR14.out, Int.toNat_natCast, NX1.out, NX2.out, NX3.out])
              clear NX1 NX2 NX3 HR1 HR2 HR3 HR4 HR11 HR14
              obtain ⟨A9, n9, c9, rq, hA⟩ := T.out.rq
              have hn9 : n9 ≤ 20000 := by have h1 := rq.r.1; have h2 := T.out.len; omega
              obtain ⟨bL, hbL⟩ : ∃ x, b = x := ⟨_, rfl⟩
              obtain ⟨eL, heL⟩ : ∃ x, e = x := ⟨_, rfl⟩
              have DN := Lib.hid (rdone_any (w.heap.size + 1) n9 c9 A9 b e wr rq (by omega))
              obtain ⟨D, hD⟩ : ∃ D, (if e = 0 ∧ 0 < (b).length then (5 : Int) else e) = D := ⟨_, rfl⟩
              rw [hD] at DN
              have YES : Hid (D = 0 → IsR bs ⟨0, x1, x2, x3, ts, gs, as1⟩) := Lib.hid fun h0 => by
                have e2 : (pR bs).2 = ([], 0) := by
                  rw [PRE.out]
                  rw [← hD] at h0
                  by_cases c : e = 0 ∧ 0 < (b).length
                  · rw [if_pos c] at h0; omega
                  · rw [if_neg c] at h0
                    have l0 : b = [] := List.eq_nil_of_length_eq_zero (by omega)
                    show (b, e) = _
                    rw [l0, h0]
                have := pR_back BY.out e2
                rw [PRE.out] at this
                exact this
              have NO : Hid (D ≠ 0 → ∀ d, ¬ IsR bs d) := Lib.hid fun h0 => pR_none (by
                rw [PRE.out]
                intro c
                have c1 : b = [] := congrArg Prod.fst c
                have c2 : e = 0 := congrArg Prod.snd c
                apply h0
                rw [← hD, c1, c2]
                rfl)
              clear rq hn9 hA hD hbL heL
              go_wp2_with fail
              refine DN.out.mono ?_; rintro en wd ⟨rfl, hwd⟩
              subst hwd
              by_cases d0 : D = 0
              case neg =>
                have dd : (D != 0) = true := by simp [d0]
                have NN := Lib.hid (NO.out d0)
                obtain ⟨z, hz⟩ := T.out.res
                have HZ := Lib.hid hz
                obtain ⟨Wz, hWz⟩ : ∃ W, wr.setRow w.heap.size (ERv.cells zeroRv).toArray = W := ⟨_, rfl⟩
                have TT := T.out.told (x := zeroRv)
                rw [hWz] at TT
                have TL := Lib.hid TT
                have HWz := Lib.hid hWz
                clear d0 hz hWz TT
                go_wp2_with (refine rwl_store TRv zeroRv w.heap.size HZ.out rfl rfl ?_; rw [HWz.out])
                (try simp only [Exit.inBlock, Exit.then])
                refine bodyPost_ret (rret TRv rfl _ Wz w.heap.size rfl rfl TL.out.1) rfl ?_
                exact ⟨zeroRv, zeroRw, 5, rfl, errV_ok 0, errV_in 0 Wz, .inr ⟨NN.out, rfl, rfl⟩, TL.out.2.2.2⟩
              subst d0
              have IS := Lib.hid (YES.out rfl)
              obtain ⟨z, hz⟩ := T.out.res
              have HZ := Lib.hid hz
              have XB := Lib.hid (gbx_rng T.out.box)
              obtain ⟨Wz, hWz⟩ : ∃ W, wr.setRow w.heap.size (ERv.cells (⟨0, x1, x2, x3, Z1, z1, y1, Z2, z2, y2, Z3, z3, y3⟩ : Rv)).toArray = W := ⟨_, rfl⟩
              have TT := T.out.told (x := (⟨0, x1, x2, x3, Z1, z1, y1, Z2, z2, y2, Z3, z3, y3⟩ : Rv))
              rw [hWz] at TT
              have TL := Lib.hid TT
              have HWz := Lib.hid hWz
              clear hz hWz TT
              go_wp2_with (first | ((with_reducible refine rwl_load TRv gc 0 XB.out ?_ ?_ ?_); rfl; rfl) | (refine rwl_store TRv (⟨0, x1, x2, x3, Z1, z1, y1, Z2, z2, y2, Z3, z3, y3⟩ : Rv) w.heap.size HZ.out rfl rfl ?_; rw [HWz.out]))
              (try simp only [Exit.inBlock, Exit.then])
              refine bodyPost_ret (rret TRv rfl _ Wz w.heap.size rfl rfl TL.out.1) rfl ?_
              exact ⟨(⟨0, x1, x2, x3, Z1, z1, y1, Z2, z2, y2, Z3, z3, y3⟩ : Rv), ⟨0, x1, x2, x3, ts, gs, as1⟩, 0, rfl, TL.out.2.1, TL.out.2.2.1, .inl ⟨IS.out, rfl⟩, TL.out.2.2.2⟩
            have dk : decide ((k : Int) < (m14 : Int)) = true := decide_eq_true (by omega)
            by_cases he : e = 0
            case neg =>
              have NX3 : Hid (rL aR m14 b14 e14 = (as1, b, e)) := Lib.hid (rL_end (.inr he) INV.out)
              have e0 : (e == 0) = false := by simp [he]
              clear INV TL
              have PRE : Hid (pR bs = (⟨0, x1, x2, x3, ts, gs, as1⟩, b, e)) := Lib.hid (by
                unfold pR
                rw [HR.out]
                rw [if_pos ⟨rfl, rfl⟩]
                simp only [nL, HR1.out, HR2.out, HR3.out, HR4.out, HR11.out, HR14.out, Int.toNat_natCast, NX1.out, NX2.out, NX3.out])
              clear NX1 NX2 NX3 HR1 HR2 HR3 HR4 HR11 HR14
              obtain ⟨A9, n9, c9, rq, hA⟩ := T.out.rq
              have hn9 : n9 ≤ 20000 := by have h1 := rq.r.1; have h2 := T.out.len; omega
              obtain ⟨bL, hbL⟩ : ∃ x, b = x := ⟨_, rfl⟩
              obtain ⟨eL, heL⟩ : ∃ x, e = x := ⟨_, rfl⟩
              have DN := Lib.hid (rdone_any (w.heap.size + 1) n9 c9 A9 b e wr rq (by omega))
              obtain ⟨D, hD⟩ : ∃ D, (if e = 0 ∧ 0 < (b).length then (5 : Int) else e) = D := ⟨_, rfl⟩
              rw [hD] at DN
              have YES : Hid (D = 0 → IsR bs ⟨0, x1, x2, x3, ts, gs, as1⟩) := Lib.hid fun h0 => by
                have e2 : (pR bs).2 = ([], 0) := by
                  rw [PRE.out]
                  rw [← hD] at h0
                  by_cases c : e = 0 ∧ 0 < (b).length
                  · rw [if_pos c] at h0; omega
                  · rw [if_neg c] at h0
                    have l0 : b = [] := List.eq_nil_of_length_eq_zero (by omega)
                    show (b, e) = _
                    rw [l0, h0]
                have := pR_back BY.out e2
                rw [PRE.out] at this
                exact this
              have NO : Hid (D ≠ 0 → ∀ d, ¬ IsR bs d) := Lib.hid fun h0 => pR_none (by
                rw [PRE.out]
                intro c
                have c1 : b = [] := congrArg Prod.fst c
                have c2 : e = 0 := congrArg Prod.snd c
                apply h0
                rw [← hD, c1, c2]
                rfl)
              clear rq hn9 hA hD hbL heL
              go_wp2_with fail
              refine DN.out.mono ?_; rintro en wd ⟨rfl, hwd⟩
              subst hwd
              by_cases d0 : D = 0
              case neg =>
                have dd : (D != 0) = true := by simp [d0]
                have NN := Lib.hid (NO.out d0)
                obtain ⟨z, hz⟩ := T.out.res
                have HZ := Lib.hid hz
                obtain ⟨Wz, hWz⟩ : ∃ W, wr.setRow w.heap.size (ERv.cells zeroRv).toArray = W := ⟨_, rfl⟩
                have TT := T.out.told (x := zeroRv)
                rw [hWz] at TT
                have TL := Lib.hid TT
                have HWz := Lib.hid hWz
                clear d0 hz hWz TT
                go_wp2_with (refine rwl_store TRv zeroRv w.heap.size HZ.out rfl rfl ?_; rw [HWz.out])
                (try simp only [Exit.inBlock, Exit.then])
                refine bodyPost_ret (rret TRv rfl _ Wz w.heap.size rfl rfl TL.out.1) rfl ?_
                exact ⟨zeroRv, zeroRw, 5, rfl, errV_ok 0, errV_in 0 Wz, .inr ⟨NN.out, rfl, rfl⟩, TL.out.2.2.2⟩
              subst d0
              have IS := Lib.hid (YES.out rfl)
              obtain ⟨z, hz⟩ := T.out.res
              have HZ := Lib.hid hz
              have XB := Lib.hid (gbx_rng T.out.box)
              obtain ⟨Wz, hWz⟩ : ∃ W, wr.setRow w.heap.size (ERv.cells (⟨0, x1, x2, x3, Z1, z1, y1, Z2, z2, y2, Z3, z3, y3⟩ : Rv)).toArray = W := ⟨_, rfl⟩
              have TT := T.out.told (x := (⟨0, x1, x2, x3, Z1, z1, y1, Z2, z2, y2, Z3, z3, y3⟩ : Rv))
              rw [hWz] at TT
              have TL := Lib.hid TT
              have HWz := Lib.hid hWz
              clear hz hWz TT
              go_wp2_with (first | ((with_reducible refine rwl_load TRv gc 0 XB.out ?_ ?_ ?_); rfl; rfl) | (refine rwl_store TRv (⟨0, x1, x2, x3, Z1, z1, y1, Z2, z2, y2, Z3, z3, y3⟩ : Rv) w.heap.size HZ.out rfl rfl ?_; rw [HWz.out]))
              (try simp only [Exit.inBlock, Exit.then])
              refine bodyPost_ret (rret TRv rfl _ Wz w.heap.size rfl rfl TL.out.1) rfl ?_
              exact ⟨(⟨0, x1, x2, x3, Z1, z1, y1, Z2, z2, y2, Z3, z3, y3⟩ : Rv), ⟨0, x1, x2, x3, ts, gs, as1⟩, 0, rfl, TL.out.2.1, TL.out.2.2.1, .inl ⟨IS.out, rfl⟩, TL.out.2.2.2⟩
            subst he
            have e0 : ((0 : Int) == 0) = true := by decide
            have wk : IntKind.u64.wrap ((k : Int) + 1) = (k : Int) + 1 := by simp [IntKind.wrap, IntKind.bits, IntKind.signed]; omega
            go_wp2_with fail
            clear kE dk e0
            refine wp_region_held_drew (S := fun _ => True) (by kernel_rfl) trivial (fun hH => ?_)
            replace T := Lib.hid (show Tp w gc n A wr.drew ⟨0, x1, x2, x3, Z1, z1, y1, Z2, z2, y2, Z3, z3, y3⟩ ts gs as1 b 0 from T.out.below (Below.refl _ _).drew)
            generalize wr.drew = wd at T ⊢
            obtain ⟨A9, n9, c9, rq, hA⟩ := T.out.rq
            have hn9 : n9 ≤ 20000 := by have h1 := rq.r.1; have h2 := T.out.len; omega
            have BYb := T.out.by'
            have SM := Lib.hid (rsmall_any (w.heap.size + 1) n9 c9 A9 b 0 4294967295 wd rq BYb (by omega))
            have MB := sR_most BYb 0 (m := 4294967295) (by decide)
            have NB := sR_by BYb 0 4294967295
            obtain ⟨⟨x15, b15, e15⟩, hr⟩ : ∃ r, sR b 0 4294967295 = r := ⟨_, rfl⟩
            unfold SmallE at SM
            rw [hr] at SM MB NB
            dsimp only at SM MB NB
            obtain ⟨ma15, mb15⟩ := MB
            have NI := Lib.hid (rL_next hlt (show aR b 0 = (x15, b15, e15) from hr) INV.out)
            have HA := Lib.hid hA
            have HNB := Lib.hid NB
            clear rq hn9 BYb hr hA NB
            have LT : Hid (as1.length + 1 ≤ 100000) := Lib.hid (by have := TL.out; omega)
            have wu : IntKind.u32.wrap x15 = x15 := by simp [IntKind.wrap, IntKind.bits, IntKind.signed]; omega
            refine wpAnyH_take (i := 0) (v := .pointer (some ⟨gc, 6, none⟩)) rfl (by kernel_rfl) (by kernel_rfl) (by kernel_rfl) (fun _ _ _ h => h) (.inl ⟨by rfl, ?_⟩) (by assumption) ?_
            · intro W hW; go_simp
            try simp only [List.getElem_toArray, List.getElem_cons_zero, Act.put, List.setIfInBounds_toArray, List.set_cons_zero, List.set_cons_succ]
            refine wpAnyH_take (i := 2) (v := .pointer (some ⟨w.heap.size + 1, 0, none⟩)) rfl (by kernel_rfl) (by kernel_rfl) (by kernel_rfl) (fun _ _ _ h => h) (.inl ⟨by rfl, ?_⟩) (by assumption) ?_
            · intro W hW; go_simp
            try simp only [List.getElem_toArray, List.getElem_cons_zero, List.getElem_cons_succ, Act.put, List.setIfInBounds_toArray, List.set_cons_zero, List.set_cons_succ]
            refine wpAnyH_ready (rs := [1, 3]) (by decide +kernel) (by simp) (AllReadyH.cons rfl (fun KQ hK => ?_) (AllReadyH.cons rfl (fun KQ hK => ?_) AllReadyH.nil))
            · skip
              have hcL : wd.cell? ⟨gc, 6, none⟩ = some (.slice Z3 z3 y3) := rv_c15 T.out.box rfl
              go_simp
              refine hK.out _ _ trivial (fun _ => ?_)
              clear hK hcL
              try simp only [List.setIfInBounds_toArray, List.set_cons_zero, List.set_cons_succ]
              refine wpAnyH_ready (rs := [3]) (by decide +kernel) (by simp) (AllReadyH.cons rfl (fun KQ hK => ?_) AllReadyH.nil)
              go_simp
              refine SM.out.mono ?_; rintro e0 Wc ⟨rfl, d⟩
              replace T := Lib.hid (show Tp w gc n A Wc ⟨0, x1, x2, x3, Z1, z1, y1, Z2, z2, y2, Z3, z3, y3⟩ ts gs as1 b15 e15 from T.out.call HA.out d HNB.out.2 HNB.out.1)
              clear d SM
              refine hK.out _ _ trivial (fun _ => ?_)
              clear hK
              try simp only [List.setIfInBounds_toArray, List.set_cons_zero, List.set_cons_succ]
              refine wpAnyH_take (i := 4) (v := .int .u32 x15) rfl (by kernel_rfl) (by kernel_rfl) (by kernel_rfl) (fun _ _ _ h => h) (.inl ⟨by rfl, ?_⟩) (by assumption) ?_
              · intro W hW; go_simp
              try simp only [List.getElem_toArray, List.getElem_cons_zero, List.getElem_cons_succ, Act.put, List.setIfInBounds_toArray, List.set_cons_zero, List.set_cons_succ]
              refine wpAnyH_ready (rs := [5]) (by decide +kernel) (by simp) (AllReadyH.cons rfl (fun KQ hK => ?_) AllReadyH.nil)
              obtain ⟨Wb, hWb⟩ : ∃ W, Wc.alloc (.cells #[.int .u32 x15] 25) = W := ⟨_, rfl⟩
              have RD : Hid (E3w.Rd Wb (some ⟨Wc.heap.size, 0, none⟩) 1 [x15]) := Lib.hid (by rw [← hWb]; exact gbx_rd (gbx_new (E := E3w) Wc x15))
              replace T := Lib.hid (show Tp w gc n A Wb ⟨0, x1, x2, x3, Z1, z1, y1, Z2, z2, y2, Z3, z3, y3⟩ ts gs as1 b15 e15 by rw [← hWb]; exact T.out.below (below_new _ _))
              go_simp
              (try rw [hWb])
              refine hK.out _ _ trivial (fun _ => ?_)
              clear hK hWb
              try simp only [List.setIfInBounds_toArray, List.set_cons_zero, List.set_cons_succ]
              refine wpAnyH_ready (rs := [6]) (by decide +kernel) (by simp) (AllReadyH.cons rfl (fun KQ hK => ?_) AllReadyH.nil)
              rw [if_pos (by rfl)]
              refine n3_wp15 _ _ rfl (w.heap.size + 2) (.slice Z3 z3 y3) as1 rfl T.out.oa _ 1 1 [x15] rfl RD.out (fun e => by cases e) LT.out (by have := T.out.new; have := tbx_lt15 T.out.box; omega) ?_
              intro v9 w9 o9 g9 _
              obtain ⟨Z9, z9, y9, rfl⟩ := gown_any o9
              have TB := T.out.appA g9 o9
              have hcell : w9.cell? ⟨gc, 6, none⟩ = some (.slice Z3 z3 y3) := rv_c15 TB.1 rfl
              have hfree : w9.frozen? ⟨gc, 6, none⟩ = false := gbx_fz TB.1 6
              replace T := Lib.hid (show Tp w gc n A (w9.setCell ⟨gc, 6, none⟩ (.slice Z9 z9 y9)) ⟨0, x1, x2, x3, Z1, z1, y1, Z2, z2, y2, Z9, z9, y9⟩ ts gs (as1 ++ [x15]) b15 e15 from TB.2)
              clear TB o9 g9 RD
              refine hK.out _ _ trivial (fun _ => ?_)
              clear hK
              try simp only [List.setIfInBounds_toArray, List.set_cons_zero, List.set_cons_succ]
              refine wpAnyH_take (i := 7) (v := .pointer (some ⟨gc, 6, none⟩)) rfl (by kernel_rfl) (by kernel_rfl) (by kernel_rfl) (fun _ _ _ h => h) (.inl ⟨by rfl, ?_⟩) (by assumption) ?_
              · intro W hW; go_simp
              try simp only [List.getElem_toArray, List.getElem_cons_zero, List.getElem_cons_succ, Act.put, List.setIfInBounds_toArray, List.set_cons_zero, List.set_cons_succ]
              refine wpAnyH_ready (rs := [8]) (by decide +kernel) (by simp) (AllReadyH.cons rfl (fun KQ hK => ?_) AllReadyH.nil)
              go_simp
              refine hK.out _ _ trivial (fun _ => ?_)
              clear hK hcell hfree
              try simp only [List.setIfInBounds_toArray, List.set_cons_zero, List.set_cons_succ]
              refine wpAnyH_done (by decide +kernel) ?_ _
              go_wp2_with fail
              go_roundw
              case rel => exact ⟨k + 1, Z9, z9, y9, _, _, _, hlt, by first | rfl | go_num, T.out, NI.out, by rw [List.length_append, TL.out]; rfl⟩
              case measure => simp [intOf]; omega
            · skip
              go_simp
              refine SM.out.mono ?_; rintro e0 Wc ⟨rfl, d⟩
              replace T := Lib.hid (show Tp w gc n A Wc ⟨0, x1, x2, x3, Z1, z1, y1, Z2, z2, y2, Z3, z3, y3⟩ ts gs as1 b15 e15 from T.out.call HA.out d HNB.out.2 HNB.out.1)
              clear d SM
              refine hK.out _ _ trivial (fun _ => ?_)
              clear hK
              try simp only [List.setIfInBounds_toArray, List.set_cons_zero, List.set_cons_succ]
              refine wpAnyH_take (i := 4) (v := .int .u32 x15) rfl (by kernel_rfl) (by kernel_rfl) (by kernel_rfl) (fun _ _ _ h => h) (.inl ⟨by rfl, ?_⟩) (by assumption) ?_
              · intro W hW; go_simp
              try simp only [List.getElem_toArray, List.getElem_cons_zero, List.getElem_cons_succ, Act.put, List.setIfInBounds_toArray, List.set_cons_zero, List.set_cons_succ]
              refine wpAnyH_ready (rs := [1, 5]) (by decide +kernel) (by simp) (AllReadyH.cons rfl (fun KQ hK => ?_) (AllReadyH.cons rfl (fun KQ hK => ?_) AllReadyH.nil))
              · skip
                have hcL : Wc.cell? ⟨gc, 6, none⟩ = some (.slice Z3 z3 y3) := rv_c15 T.out.box rfl
                go_simp
                refine hK.out _ _ trivial (fun _ => ?_)
                clear hK hcL
                try simp only [List.setIfInBounds_toArray, List.set_cons_zero, List.set_cons_succ]
                refine wpAnyH_ready (rs := [5]) (by decide +kernel) (by simp) (AllReadyH.cons rfl (fun KQ hK => ?_) AllReadyH.nil)
                obtain ⟨Wb, hWb⟩ : ∃ W, Wc.alloc (.cells #[.int .u32 x15] 25) = W := ⟨_, rfl⟩
                have RD : Hid (E3w.Rd Wb (some ⟨Wc.heap.size, 0, none⟩) 1 [x15]) := Lib.hid (by rw [← hWb]; exact gbx_rd (gbx_new (E := E3w) Wc x15))
                replace T := Lib.hid (show Tp w gc n A Wb ⟨0, x1, x2, x3, Z1, z1, y1, Z2, z2, y2, Z3, z3, y3⟩ ts gs as1 b15 e15 by rw [← hWb]; exact T.out.below (below_new _ _))
                go_simp
                (try rw [hWb])
                refine hK.out _ _ trivial (fun _ => ?_)
                clear hK hWb
                try simp only [List.setIfInBounds_toArray, List.set_cons_zero, List.set_cons_succ]
                refine wpAnyH_ready (rs := [6]) (by decide +kernel) (by simp) (AllReadyH.cons rfl (fun KQ hK => ?_) AllReadyH.nil)
                rw [if_pos (by rfl)]
                refine n3_wp15 _ _ rfl (w.heap.size + 2) (.slice Z3 z3 y3) as1 rfl T.out.oa _ 1 1 [x15] rfl RD.out (fun e => by cases e) LT.out (by have := T.out.new; have := tbx_lt15 T.out.box; omega) ?_
                intro v9 w9 o9 g9 _
                obtain ⟨Z9, z9, y9, rfl⟩ := gown_any o9
                have TB := T.out.appA g9 o9
                have hcell : w9.cell? ⟨gc, 6, none⟩ = some (.slice Z3 z3 y3) := rv_c15 TB.1 rfl
                have hfree : w9.frozen? ⟨gc, 6, none⟩ = false := gbx_fz TB.1 6
                replace T := Lib.hid (show Tp w gc n A (w9.setCell ⟨gc, 6, none⟩ (.slice Z9 z9 y9)) ⟨0, x1, x2, x3, Z1, z1, y1, Z2, z2, y2, Z9, z9, y9⟩ ts gs (as1 ++ [x15]) b15 e15 from TB.2)
                clear TB o9 g9 RD
                refine hK.out _ _ trivial (fun _ => ?_)
                clear hK
                try simp only [List.setIfInBounds_toArray, List.set_cons_zero, List.set_cons_succ]
                refine wpAnyH_take (i := 7) (v := .pointer (some ⟨gc, 6, none⟩)) rfl (by kernel_rfl) (by kernel_rfl) (by kernel_rfl) (fun _ _ _ h => h) (.inl ⟨by rfl, ?_⟩) (by assumption) ?_
                · intro W hW; go_simp
                try simp only [List.getElem_toArray, List.getElem_cons_zero, List.getElem_cons_succ, Act.put, List.setIfInBounds_toArray, List.set_cons_zero, List.set_cons_succ]
                refine wpAnyH_ready (rs := [8]) (by decide +kernel) (by simp) (AllReadyH.cons rfl (fun KQ hK => ?_) AllReadyH.nil)
                go_simp
                refine hK.out _ _ trivial (fun _ => ?_)
                clear hK hcell hfree
                try simp only [List.setIfInBounds_toArray, List.set_cons_zero, List.set_cons_succ]
                refine wpAnyH_done (by decide +kernel) ?_ _
                go_wp2_with fail
                go_roundw
                case rel => exact ⟨k + 1, Z9, z9, y9, _, _, _, hlt, by first | rfl | go_num, T.out, NI.out, by rw [List.length_append, TL.out]; rfl⟩
                case measure => simp [intOf]; omega
              · skip
                obtain ⟨Wb, hWb⟩ : ∃ W, Wc.alloc (.cells #[.int .u32 x15] 25) = W := ⟨_, rfl⟩
                have RD : Hid (E3w.Rd Wb (some ⟨Wc.heap.size, 0, none⟩) 1 [x15]) := Lib.hid (by rw [← hWb]; exact gbx_rd (gbx_new (E := E3w) Wc x15))
                replace T := Lib.hid (show Tp w gc n A Wb ⟨0, x1, x2, x3, Z1, z1, y1, Z2, z2, y2, Z3, z3, y3⟩ ts gs as1 b15 e15 by rw [← hWb]; exact T.out.below (below_new _ _))
                go_simp
                (try rw [hWb])
                refine hK.out _ _ trivial (fun _ => ?_)
                clear hK hWb
                try simp only [List.setIfInBounds_toArray, List.set_cons_zero, List.set_cons_succ]
                refine wpAnyH_ready (rs := [1]) (by decide +kernel) (by simp) (AllReadyH.cons rfl (fun KQ hK => ?_) AllReadyH.nil)
                have hcL : Wb.cell? ⟨gc, 6, none⟩ = some (.slice Z3 z3 y3) := rv_c15 T.out.box rfl
                go_simp
                refine hK.out _ _ trivial (fun _ => ?_)
                clear hK hcL
                try simp only [List.setIfInBounds_toArray, List.set_cons_zero, List.set_cons_succ]
                refine wpAnyH_ready (rs := [6]) (by decide +kernel) (by simp) (AllReadyH.cons rfl (fun KQ hK => ?_) AllReadyH.nil)
                rw [if_pos (by rfl)]
                refine n3_wp15 _ _ rfl (w.heap.size + 2) (.slice Z3 z3 y3) as1 rfl T.out.oa _ 1 1 [x15] rfl RD.out (fun e => by cases e) LT.out (by have := T.out.new; have := tbx_lt15 T.out.box; omega) ?_
                intro v9 w9 o9 g9 _
                obtain ⟨Z9, z9, y9, rfl⟩ := gown_any o9
                have TB := T.out.appA g9 o9
                have hcell : w9.cell? ⟨gc, 6, none⟩ = some (.slice Z3 z3 y3) := rv_c15 TB.1 rfl
                have hfree : w9.frozen? ⟨gc, 6, none⟩ = false := gbx_fz TB.1 6
                replace T := Lib.hid (show Tp w gc n A (w9.setCell ⟨gc, 6, none⟩ (.slice Z9 z9 y9)) ⟨0, x1, x2, x3, Z1, z1, y1, Z2, z2, y2, Z9, z9, y9⟩ ts gs (as1 ++ [x15]) b15 e15 from TB.2)
                clear TB o9 g9 RD
                refine hK.out _ _ trivial (fun _ => ?_)
                clear hK
                try simp only [List.setIfInBounds_toArray, List.set_cons_zero, List.set_cons_succ]
                refine wpAnyH_take (i := 7) (v := .pointer (some ⟨gc, 6, none⟩)) rfl (by kernel_rfl) (by kernel_rfl) (by kernel_rfl) (fun _ _ _ h => h) (.inl ⟨by rfl, ?_⟩) (by assumption) ?_
                · intro W hW; go_simp
                try simp only [List.getElem_toArray, List.getElem_cons_zero, List.getElem_cons_succ, Act.put, List.setIfInBounds_toArray, List.set_cons_zero, List.set_cons_succ]
                refine wpAnyH_ready (rs := [8]) (by decide +kernel) (by simp) (AllReadyH.cons rfl (fun KQ hK => ?_) AllReadyH.nil)
                go_simp
                refine hK.out _ _ trivial (fun _ => ?_)
                clear hK hcell hfree
                try simp only [List.setIfInBounds_toArray, List.set_cons_zero, List.set_cons_succ]
                refine wpAnyH_done (by decide +kernel) ?_ _
                go_wp2_with fail
                go_roundw
                case rel => exact ⟨k + 1, Z9, z9, y9, _, _, _, hlt, by first | rfl | go_num, T.out, NI.out, by rw [List.length_append, TL.out]; rfl⟩
                case measure => simp [intOf]; omega
        subst he
        have e0 : ((0 : Int) == 0) = true := by decide
        have wk : IntKind.u64.wrap ((k : Int) + 1) = (k : Int) + 1 := by simp [IntKind.wrap, IntKind.bits, IntKind.signed]; omega
        go_wp2_with fail
        clear kE dk e0
        refine wp_region_held_drew (S := fun _ => True) (by kernel_rfl) trivial (fun hH => ?_)
        replace T := Lib.hid (show Tp w gc n A wr.drew ⟨0, x1, x2, x3, Z1, z1, y1, Z2, z2, y2, none, 0, 0⟩ ts gs [] b 0 from T.out.below (Below.refl _ _).drew)
        generalize wr.drew = wd at T ⊢
        obtain ⟨A9, n9, c9, rq, hA⟩ := T.out.rq
        have hn9 : n9 ≤ 20000 := by have h1 := rq.r.1; have h2 := T.out.len; omega
        have BYb := T.out.by'
        have SM := Lib.hid (rnatr_any (w.heap.size + 1) n9 c9 A9 b 0 wd rq BYb (by omega))
        have MB := sR_bd BYb 0 top
        have NB := sR_by BYb 0 top
        obtain ⟨⟨x16, b16, e16⟩, hr⟩ : ∃ r, sR b 0 top = r := ⟨_, rfl⟩
        unfold SmallE at SM
        rw [hr] at SM MB NB
        dsimp only at SM MB NB
        obtain ⟨ma16, mb16⟩ := MB
        have NI := Lib.hid (rL_next hlt (show gR b 0 = (x16, b16, e16) from hr) INV.out)
        have HA := Lib.hid hA
        have HNB := Lib.hid NB
        clear rq hn9 BYb hr hA NB
        have LT : Hid (gs.length + 1 ≤ 100000) := Lib.hid (by have := TL.out; omega)
        refine wpAnyH_take (i := 0) (v := .pointer (some ⟨gc, 5, none⟩)) rfl (by kernel_rfl) (by kernel_rfl) (by kernel_rfl) (fun _ _ _ h => h) (.inl ⟨by rfl, ?_⟩) (by assumption) ?_
        · intro W hW; go_simp
        try simp only [List.getElem_toArray, List.getElem_cons_zero, Act.put, List.setIfInBounds_toArray, List.set_cons_zero, List.set_cons_succ]
        refine wpAnyH_take (i := 2) (v := .pointer (some ⟨w.heap.size + 1, 0, none⟩)) rfl (by kernel_rfl) (by kernel_rfl) (by kernel_rfl) (fun _ _ _ h => h) (.inl ⟨by rfl, ?_⟩) (by assumption) ?_
        · intro W hW; go_simp
        try simp only [List.getElem_toArray, List.getElem_cons_zero, List.getElem_cons_succ, Act.put, List.setIfInBounds_toArray, List.set_cons_zero, List.set_cons_succ]
        refine wpAnyH_ready (rs := [1, 3]) (by decide +kernel) (by simp) (AllReadyH.cons rfl (fun KQ hK => ?_) (AllReadyH.cons rfl (fun KQ hK => ?_) AllReadyH.nil))
        · skip
          have hcL : wd.cell? ⟨gc, 5, none⟩ = some (.slice Z2 z2 y2) := rv_c15 T.out.box rfl
          go_simp
          refine hK.out _ _ trivial (fun _ => ?_)
          clear hK hcL
          try simp only [List.setIfInBounds_toArray, List.set_cons_zero, List.set_cons_succ]
          refine wpAnyH_ready (rs := [3]) (by decide +kernel) (by simp) (AllReadyH.cons rfl (fun KQ hK => ?_) AllReadyH.nil)
          go_simp
          refine SM.out.mono ?_; rintro e0 Wc ⟨rfl, d⟩
          replace T := Lib.hid (show Tp w gc n A Wc ⟨0, x1, x2, x3, Z1, z1, y1, Z2, z2, y2, none, 0, 0⟩ ts gs [] b16 e16 from T.out.call HA.out d HNB.out.2 HNB.out.1)
          clear d SM
          refine hK.out _ _ trivial (fun _ => ?_)
          clear hK
          try simp only [List.setIfInBounds_toArray, List.set_cons_zero, List.set_cons_succ]
          refine wpAnyH_ready (rs := [4]) (by decide +kernel) (by simp) (AllReadyH.cons rfl (fun KQ hK => ?_) AllReadyH.nil)
          obtain ⟨Wb, hWb⟩ : ∃ W, Wc.alloc (.cells #[.int .u64 x16] 26) = W := ⟨_, rfl⟩
          have RD : Hid (E6w.Rd Wb (some ⟨Wc.heap.size, 0, none⟩) 1 [x16]) := Lib.hid (by rw [← hWb]; exact gbx_rd (gbx_new (E := E6w) Wc x16))
          replace T := Lib.hid (show Tp w gc n A Wb ⟨0, x1, x2, x3, Z1, z1, y1, Z2, z2, y2, none, 0, 0⟩ ts gs [] b16 e16 by rw [← hWb]; exact T.out.below (below_new _ _))
          go_simp
          (try rw [hWb])
          refine hK.out _ _ trivial (fun _ => ?_)
          clear hK hWb
          try simp only [List.setIfInBounds_toArray, List.set_cons_zero, List.set_cons_succ]
          refine wpAnyH_ready (rs := [5]) (by decide +kernel) (by simp) (AllReadyH.cons rfl (fun KQ hK => ?_) AllReadyH.nil)
          rw [if_pos (by rfl)]
          refine n6_wp15 _ _ rfl (w.heap.size + 2) (.slice Z2 z2 y2) gs rfl T.out.og _ 1 1 [x16] rfl RD.out (fun e => by cases e) LT.out (by have := T.out.new; have := tbx_lt15 T.out.box; omega) ?_
          intro v9 w9 o9 g9 _
          obtain ⟨Z9, z9, y9, rfl⟩ := gown_any o9
          have TB := T.out.appG g9 o9
          have hcell : w9.cell? ⟨gc, 5, none⟩ = some (.slice Z2 z2 y2) := rv_c15 TB.1 rfl
          have hfree : w9.frozen? ⟨gc, 5, none⟩ = false := gbx_fz TB.1 5
          replace T := Lib.hid (show Tp w gc n A (w9.setCell ⟨gc, 5, none⟩ (.slice Z9 z9 y9)) ⟨0, x1, x2, x3, Z1, z1, y1, Z9, z9, y9, none, 0, 0⟩ ts (gs ++ [x16]) [] b16 e16 from TB.2)
          clear TB o9 g9 RD
          refine hK.out _ _ trivial (fun _ => ?_)
          clear hK
          try simp only [List.setIfInBounds_toArray, List.set_cons_zero, List.set_cons_succ]
          refine wpAnyH_take (i := 6) (v := .pointer (some ⟨gc, 5, none⟩)) rfl (by kernel_rfl) (by kernel_rfl) (by kernel_rfl) (fun _ _ _ h => h) (.inl ⟨by rfl, ?_⟩) (by assumption) ?_
          · intro W hW; go_simp
          try simp only [List.getElem_toArray, List.getElem_cons_zero, List.getElem_cons_succ, Act.put, List.setIfInBounds_toArray, List.set_cons_zero, List.set_cons_succ]
          refine wpAnyH_ready (rs := [7]) (by decide +kernel) (by simp) (AllReadyH.cons rfl (fun KQ hK => ?_) AllReadyH.nil)
          go_simp
          refine hK.out _ _ trivial (fun _ => ?_)
          clear hK hcell hfree
          try simp only [List.setIfInBounds_toArray, List.set_cons_zero, List.set_cons_succ]
          refine wpAnyH_done (by decide +kernel) ?_ _
          go_wp2_with fail
          go_roundw
          case rel => exact ⟨k + 1, Z9, z9, y9, _, _, _, hlt, by first | rfl | go_num, T.out, NI.out, by rw [List.length_append, TL.out]; rfl⟩
          case measure => simp [intOf]; omega
        · skip
          go_simp
          refine SM.out.mono ?_; rintro e0 Wc ⟨rfl, d⟩
          replace T := Lib.hid (show Tp w gc n A Wc ⟨0, x1, x2, x3, Z1, z1, y1, Z2, z2, y2, none, 0, 0⟩ ts gs [] b16 e16 from T.out.call HA.out d HNB.out.2 HNB.out.1)
          clear d SM
          refine hK.out _ _ trivial (fun _ => ?_)
          clear hK
          try simp only [List.setIfInBounds_toArray, List.set_cons_zero, List.set_cons_succ]
          refine wpAnyH_ready (rs := [1, 4]) (by decide +kernel) (by simp) (AllReadyH.cons rfl (fun KQ hK => ?_) (AllReadyH.cons rfl (fun KQ hK => ?_) AllReadyH.nil))
          · skip
            have hcL : Wc.cell? ⟨gc, 5, none⟩ = some (.slice Z2 z2 y2) := rv_c15 T.out.box rfl
            go_simp
            refine hK.out _ _ trivial (fun _ => ?_)
            clear hK hcL
            try simp only [List.setIfInBounds_toArray, List.set_cons_zero, List.set_cons_succ]
            refine wpAnyH_ready (rs := [4]) (by decide +kernel) (by simp) (AllReadyH.cons rfl (fun KQ hK => ?_) AllReadyH.nil)
            obtain ⟨Wb, hWb⟩ : ∃ W, Wc.alloc (.cells #[.int .u64 x16] 26) = W := ⟨_, rfl⟩
            have RD : Hid (E6w.Rd Wb (some ⟨Wc.heap.size, 0, none⟩) 1 [x16]) := Lib.hid (by rw [← hWb]; exact gbx_rd (gbx_new (E := E6w) Wc x16))
            replace T := Lib.hid (show Tp w gc n A Wb ⟨0, x1, x2, x3, Z1, z1, y1, Z2, z2, y2, none, 0, 0⟩ ts gs [] b16 e16 by rw [← hWb]; exact T.out.below (below_new _ _))
            go_simp
            (try rw [hWb])
            refine hK.out _ _ trivial (fun _ => ?_)
            clear hK hWb
            try simp only [List.setIfInBounds_toArray, List.set_cons_zero, List.set_cons_succ]
            refine wpAnyH_ready (rs := [5]) (by decide +kernel) (by simp) (AllReadyH.cons rfl (fun KQ hK => ?_) AllReadyH.nil)
            rw [if_pos (by rfl)]
            refine n6_wp15 _ _ rfl (w.heap.size + 2) (.slice Z2 z2 y2) gs rfl T.out.og _ 1 1 [x16] rfl RD.out (fun e => by cases e) LT.out (by have := T.out.new; have := tbx_lt15 T.out.box; omega) ?_
            intro v9 w9 o9 g9 _
            obtain ⟨Z9, z9, y9, rfl⟩ := gown_any o9
            have TB := T.out.appG g9 o9
            have hcell : w9.cell? ⟨gc, 5, none⟩ = some (.slice Z2 z2 y2) := rv_c15 TB.1 rfl
            have hfree : w9.frozen? ⟨gc, 5, none⟩ = false := gbx_fz TB.1 5
            replace T := Lib.hid (show Tp w gc n A (w9.setCell ⟨gc, 5, none⟩ (.slice Z9 z9 y9)) ⟨0, x1, x2, x3, Z1, z1, y1, Z9, z9, y9, none, 0, 0⟩ ts (gs ++ [x16]) [] b16 e16 from TB.2)
            clear TB o9 g9 RD
            refine hK.out _ _ trivial (fun _ => ?_)
            clear hK
            try simp only [List.setIfInBounds_toArray, List.set_cons_zero, List.set_cons_succ]
            refine wpAnyH_take (i := 6) (v := .pointer (some ⟨gc, 5, none⟩)) rfl (by kernel_rfl) (by kernel_rfl) (by kernel_rfl) (fun _ _ _ h => h) (.inl ⟨by rfl, ?_⟩) (by assumption) ?_
            · intro W hW; go_simp
            try simp only [List.getElem_toArray, List.getElem_cons_zero, List.getElem_cons_succ, Act.put, List.setIfInBounds_toArray, List.set_cons_zero, List.set_cons_succ]
            refine wpAnyH_ready (rs := [7]) (by decide +kernel) (by simp) (AllReadyH.cons rfl (fun KQ hK => ?_) AllReadyH.nil)
            go_simp
            refine hK.out _ _ trivial (fun _ => ?_)
            clear hK hcell hfree
            try simp only [List.setIfInBounds_toArray, List.set_cons_zero, List.set_cons_succ]
            refine wpAnyH_done (by decide +kernel) ?_ _
            go_wp2_with fail
            go_roundw
            case rel => exact ⟨k + 1, Z9, z9, y9, _, _, _, hlt, by first | rfl | go_num, T.out, NI.out, by rw [List.length_append, TL.out]; rfl⟩
            case measure => simp [intOf]; omega
          · skip
            obtain ⟨Wb, hWb⟩ : ∃ W, Wc.alloc (.cells #[.int .u64 x16] 26) = W := ⟨_, rfl⟩
            have RD : Hid (E6w.Rd Wb (some ⟨Wc.heap.size, 0, none⟩) 1 [x16]) := Lib.hid (by rw [← hWb]; exact gbx_rd (gbx_new (E := E6w) Wc x16))
            replace T := Lib.hid (show Tp w gc n A Wb ⟨0, x1, x2, x3, Z1, z1, y1, Z2, z2, y2, none, 0, 0⟩ ts gs [] b16 e16 by rw [← hWb]; exact T.out.below (below_new _ _))
            go_simp
            (try rw [hWb])
            refine hK.out _ _ trivial (fun _ => ?_)
            clear hK hWb
            try simp only [List.setIfInBounds_toArray, List.set_cons_zero, List.set_cons_succ]
            refine wpAnyH_ready (rs := [1]) (by decide +kernel) (by simp) (AllReadyH.cons rfl (fun KQ hK => ?_) AllReadyH.nil)
            have hcL : Wb.cell? ⟨gc, 5, none⟩ = some (.slice Z2 z2 y2) := rv_c15 T.out.box rfl
            go_simp
            refine hK.out _ _ trivial (fun _ => ?_)
            clear hK hcL
            try simp only [List.setIfInBounds_toArray, List.set_cons_zero, List.set_cons_succ]
            refine wpAnyH_ready (rs := [5]) (by decide +kernel) (by simp) (AllReadyH.cons rfl (fun KQ hK => ?_) AllReadyH.nil)
            rw [if_pos (by rfl)]
            refine n6_wp15 _ _ rfl (w.heap.size + 2) (.slice Z2 z2 y2) gs rfl T.out.og _ 1 1 [x16] rfl RD.out (fun e => by cases e) LT.out (by have := T.out.new; have := tbx_lt15 T.out.box; omega) ?_
            intro v9 w9 o9 g9 _
            obtain ⟨Z9, z9, y9, rfl⟩ := gown_any o9
            have TB := T.out.appG g9 o9
            have hcell : w9.cell? ⟨gc, 5, none⟩ = some (.slice Z2 z2 y2) := rv_c15 TB.1 rfl
            have hfree : w9.frozen? ⟨gc, 5, none⟩ = false := gbx_fz TB.1 5
            replace T := Lib.hid (show Tp w gc n A (w9.setCell ⟨gc, 5, none⟩ (.slice Z9 z9 y9)) ⟨0, x1, x2, x3, Z1, z1, y1, Z9, z9, y9, none, 0, 0⟩ ts (gs ++ [x16]) [] b16 e16 from TB.2)
            clear TB o9 g9 RD
            refine hK.out _ _ trivial (fun _ => ?_)
            clear hK
            try simp only [List.setIfInBounds_toArray, List.set_cons_zero, List.set_cons_succ]
            refine wpAnyH_take (i := 6) (v := .pointer (some ⟨gc, 5, none⟩)) rfl (by kernel_rfl) (by kernel_rfl) (by kernel_rfl) (fun _ _ _ h => h) (.inl ⟨by rfl, ?_⟩) (by assumption) ?_
            · intro W hW; go_simp
            try simp only [List.getElem_toArray, List.getElem_cons_zero, List.getElem_cons_succ, Act.put, List.setIfInBounds_toArray, List.set_cons_zero, List.set_cons_succ]
            refine wpAnyH_ready (rs := [7]) (by decide +kernel) (by simp) (AllReadyH.cons rfl (fun KQ hK => ?_) AllReadyH.nil)
            go_simp
            refine hK.out _ _ trivial (fun _ => ?_)
            clear hK hcell hfree
            try simp only [List.setIfInBounds_toArray, List.set_cons_zero, List.set_cons_succ]
            refine wpAnyH_done (by decide +kernel) ?_ _
            go_wp2_with fail
            go_roundw
            case rel => exact ⟨k + 1, Z9, z9, y9, _, _, _, hlt, by first | rfl | go_num, T.out, NI.out, by rw [List.length_append, TL.out]; rfl⟩
            case measure => simp [intOf]; omega
    subst he
    have e0 : ((0 : Int) == 0) = true := by decide
    have wk : IntKind.u64.wrap ((k : Int) + 1) = (k : Int) + 1 := by simp [IntKind.wrap, IntKind.bits, IntKind.signed]; omega
    have F1 : Hid (w.heap.size + 2 ≤ wr.heap.size) := Lib.hid (by have := T.out.new; have := tbx_lt15 T.out.box; omega)
    have F2 : Hid (wr.heap.size ≠ gc) := Lib.hid (by have := tbx_lt15 T.out.box; omega)
    have F3 : Hid (∀ k, (Value.slice Z1 z1 y1).ownBlock = some k → k ≠ wr.heap.size) := Lib.hid fun k hk => by have := (gown_lt T.out.ot hk).2; omega
    obtain ⟨Wt, hWt⟩ : ∃ W, wr.alloc (.cells (ETw.cells zeroTw).toArray 72) = W := ⟨_, rfl⟩
    have X := Lib.hid (show ETw.Bx 72 Wt wr.heap.size zeroTw by rw [← hWt]; exact gbx_new wr zeroTw)
    replace T := Lib.hid (show Tp w gc n A Wt ⟨0, x1, x2, x3, Z1, z1, y1, none, 0, 0, none, 0, 0⟩ ts [] [] b 0 by rw [← hWt]; exact T.out.below (below_new _ _))
    have HWt := Lib.hid hWt
    clear hWt
    obtain ⟨A9, n9, c9, rq, hA⟩ := T.out.rq
    have hn9 : n9 ≤ 20000 := by have h1 := rq.r.1; have h2 := T.out.len; omega
    have BYb := T.out.by'
    have SM := Lib.hid (rintr_any (w.heap.size + 1) n9 c9 A9 b 0 _ rq BYb (by omega))
    have MB := iR_fits BYb 0
    have NB := sR_by BYb 0 top
    obtain ⟨⟨x17, b17, e17⟩, hr⟩ : ∃ r, iR b 0 = r := ⟨_, rfl⟩
    have r1 : zz (sR b 0 top).1 = x17 := congrArg Prod.fst hr
    have r2 : (sR b 0 top).2.1 = b17 := congrArg (fun r => r.2.1) hr
    have r3 : (sR b 0 top).2.2 = e17 := congrArg (fun r => r.2.2) hr
    unfold IntE at SM
    rw [r1, r2, r3] at SM
    rw [r2] at NB
    clear r1 r2 r3 MB
    have HR17 := Lib.hid hr
    clear rq hn9 BYb hr
    go_wp2_with (rw [HWt.out])
    clear kE dk e0 HWt
    refine SM.out.mono ?_; rintro en W17 ⟨rfl, d⟩
    replace X := Lib.hid (show ETw.Bx 72 W17 wr.heap.size zeroTw from (d.2.block _ (tbx_lt15 X.out) (by have := F1.out; simp; omega)).trans X.out)
    replace T := Lib.hid (show Tp w gc n A W17 ⟨0, x1, x2, x3, Z1, z1, y1, none, 0, 0, none, 0, 0⟩ ts [] [] b17 e17 from T.out.call hA d NB.2 NB.1)
    clear d SM hA NB
    have hcell : W17.cell? ⟨wr.heap.size, 0, none⟩ = some (.int .i64 0) := gbx_cell X.out 0
    have hfree : W17.frozen? ⟨wr.heap.size, 0, none⟩ = false := gbx_fz X.out 0
    replace X := Lib.hid (show ETw.Bx 72 (W17.setCell ⟨wr.heap.size, 0, none⟩ (.int .i64 x17)) wr.heap.size (⟨x17, 0, 0, 0⟩ : Tw) from gbx_put X.out rfl)
    replace T := Lib.hid (show Tp w gc n A (W17.setCell ⟨wr.heap.size, 0, none⟩ (.int .i64 x17)) ⟨0, x1, x2, x3, Z1, z1, y1, none, 0, 0, none, 0, 0⟩ ts [] [] b17 e17 from T.out.other F1.out F2.out F3.out (fun _ h => none_own15 h) (fun _ h => none_own15 h))
    obtain ⟨A9, n9, c9, rq, hA⟩ := T.out.rq
    have hn9 : n9 ≤ 20000 := by have h1 := rq.r.1; have h2 := T.out.len; omega
    have BYb := T.out.by'
    have SM := Lib.hid (rintr_any (w.heap.size + 1) n9 c9 A9 b17 e17 _ rq BYb (by omega))
    have MB := iR_fits BYb e17
    have NB := sR_by BYb e17 top
    obtain ⟨⟨x18, b18, e18⟩, hr⟩ : ∃ r, iR b17 e17 = r := ⟨_, rfl⟩
    have r1 : zz (sR b17 e17 top).1 = x18 := congrArg Prod.fst hr
    have r2 : (sR b17 e17 top).2.1 = b18 := congrArg (fun r => r.2.1) hr
    have r3 : (sR b17 e17 top).2.2 = e18 := congrArg (fun r => r.2.2) hr
    unfold IntE at SM
    rw [r1, r2, r3] at SM
    rw [r2] at NB
    clear r1 r2 r3 MB
    have HR18 := Lib.hid hr
    clear rq hn9 BYb hr
    go_wp2_with fail
    clear hcell hfree
    refine SM.out.mono ?_; rintro en W18 ⟨rfl, d⟩
    replace X := Lib.hid (show ETw.Bx 72 W18 wr.heap.size (⟨x17, 0, 0, 0⟩ : Tw) from (d.2.block _ (tbx_lt15 X.out) (by have := F1.out; simp; omega)).trans X.out)
    replace T := Lib.hid (show Tp w gc n A W18 ⟨0, x1, x2, x3, Z1, z1, y1, none, 0, 0, none, 0, 0⟩ ts [] [] b18 e18 from T.out.call hA d NB.2 NB.1)
    clear d SM hA NB
    have hcell : W18.cell? ⟨wr.heap.size, 1, none⟩ = some (.int .i64 0) := gbx_cell X.out 1
    have hfree : W18.frozen? ⟨wr.heap.size, 1, none⟩ = false := gbx_fz X.out 1
    replace X := Lib.hid (show ETw.Bx 72 (W18.setCell ⟨wr.heap.size, 1, none⟩ (.int .i64 x18)) wr.heap.size (⟨x17, x18, 0, 0⟩ : Tw) from gbx_put X.out rfl)
    replace T := Lib.hid (show Tp w gc n A (W18.setCell ⟨wr.heap.size, 1, none⟩ (.int .i64 x18)) ⟨0, x1, x2, x3, Z1, z1, y1, none, 0, 0, none, 0, 0⟩ ts [] [] b18 e18 from T.out.other F1.out F2.out F3.out (fun _ h => none_own15 h) (fun _ h => none_own15 h))
    obtain ⟨A9, n9, c9, rq, hA⟩ := T.out.rq
    have hn9 : n9 ≤ 20000 := by have h1 := rq.r.1; have h2 := T.out.len; omega
    have BYb := T.out.by'
    have SM := Lib.hid (rnatr_any (w.heap.size + 1) n9 c9 A9 b18 e18 _ rq BYb (by omega))
    have MB := sR_bd BYb e18 top
    have NB := sR_by BYb e18 top
    obtain ⟨⟨x19, b19, e19⟩, hr⟩ : ∃ r, sR b18 e18 top = r := ⟨_, rfl⟩
    unfold SmallE at SM
    rw [hr] at SM MB NB
    dsimp only at SM MB NB
    obtain ⟨ma19, mb19⟩ := MB
    have HR19 := Lib.hid hr
    clear rq hn9 BYb hr
    go_wp2_with fail
    clear hcell hfree
    refine SM.out.mono ?_; rintro en W19 ⟨rfl, d⟩
    replace X := Lib.hid (show ETw.Bx 72 W19 wr.heap.size (⟨x17, x18, 0, 0⟩ : Tw) from (d.2.block _ (tbx_lt15 X.out) (by have := F1.out; simp; omega)).trans X.out)
    replace T := Lib.hid (show Tp w gc n A W19 ⟨0, x1, x2, x3, Z1, z1, y1, none, 0, 0, none, 0, 0⟩ ts [] [] b19 e19 from T.out.call hA d NB.2 NB.1)
    clear d SM hA NB
    have hcell : W19.cell? ⟨wr.heap.size, 2, none⟩ = some (.int .u64 0) := gbx_cell X.out 2
    have hfree : W19.frozen? ⟨wr.heap.size, 2, none⟩ = false := gbx_fz X.out 2
    replace X := Lib.hid (show ETw.Bx 72 (W19.setCell ⟨wr.heap.size, 2, none⟩ (.int .u64 x19)) wr.heap.size (⟨x17, x18, x19, 0⟩ : Tw) from gbx_put X.out rfl)
    replace T := Lib.hid (show Tp w gc n A (W19.setCell ⟨wr.heap.size, 2, none⟩ (.int .u64 x19)) ⟨0, x1, x2, x3, Z1, z1, y1, none, 0, 0, none, 0, 0⟩ ts [] [] b19 e19 from T.out.other F1.out F2.out F3.out (fun _ h => none_own15 h) (fun _ h => none_own15 h))
    obtain ⟨A9, n9, c9, rq, hA⟩ := T.out.rq
    have hn9 : n9 ≤ 20000 := by have h1 := rq.r.1; have h2 := T.out.len; omega
    have BYb := T.out.by'
    have SM := Lib.hid (rsmall_any (w.heap.size + 1) n9 c9 A9 b19 e19 4294967295 _ rq BYb (by omega))
    have MB := sR_most BYb e19 (m := 4294967295) (by decide)
    have NB := sR_by BYb e19 4294967295
    obtain ⟨⟨x20, b20, e20⟩, hr⟩ : ∃ r, sR b19 e19 4294967295 = r := ⟨_, rfl⟩
    unfold SmallE at SM
    rw [hr] at SM MB NB
    dsimp only at SM MB NB
    obtain ⟨ma20, mb20⟩ := MB
    have HR20 := Lib.hid hr
    clear rq hn9 BYb hr
    go_wp2_with fail
    clear hcell hfree
    refine SM.out.mono ?_; rintro en W20 ⟨rfl, d⟩
    replace X := Lib.hid (show ETw.Bx 72 W20 wr.heap.size (⟨x17, x18, x19, 0⟩ : Tw) from (d.2.block _ (tbx_lt15 X.out) (by have := F1.out; simp; omega)).trans X.out)
    replace T := Lib.hid (show Tp w gc n A W20 ⟨0, x1, x2, x3, Z1, z1, y1, none, 0, 0, none, 0, 0⟩ ts [] [] b20 e20 from T.out.call hA d NB.2 NB.1)
    clear d SM hA NB
    have hcell : W20.cell? ⟨wr.heap.size, 3, none⟩ = some (.int .u32 0) := gbx_cell X.out 3
    have hfree : W20.frozen? ⟨wr.heap.size, 3, none⟩ = false := gbx_fz X.out 3
    replace X := Lib.hid (show ETw.Bx 72 (W20.setCell ⟨wr.heap.size, 3, none⟩ (.int .u32 x20)) wr.heap.size (⟨x17, x18, x19, x20⟩ : Tw) from gbx_put X.out rfl)
    replace T := Lib.hid (show Tp w gc n A (W20.setCell ⟨wr.heap.size, 3, none⟩ (.int .u32 x20)) ⟨0, x1, x2, x3, Z1, z1, y1, none, 0, 0, none, 0, 0⟩ ts [] [] b20 e20 from T.out.other F1.out F2.out F3.out (fun _ h => none_own15 h) (fun _ h => none_own15 h))
    obtain ⟨Wb, hWb⟩ : ∃ W, (W20.setCell ⟨wr.heap.size, 3, none⟩ (.int .u32 x20)) = W := ⟨_, rfl⟩
    rw [hWb] at X T
    have HWb := Lib.hid hWb
    have hc4 : Wb.cell? ⟨gc, 4, none⟩ = some (.slice Z1 z1 y1) := rv_c15 T.out.box rfl
    have XR := Lib.hid (gbx_rng X.out)
    obtain ⟨Wc, hWc⟩ : ∃ W, Wb.alloc (.cells (ETw.cells (⟨x17, x18, x19, x20⟩ : Tw)).toArray 72) = W := ⟨_, rfl⟩
    have RD : Hid (ETw.Rd Wc (some ⟨Wb.heap.size, 0, none⟩) 1 [(⟨x17, x18, x19, x20⟩ : Tw)]) := Lib.hid (by rw [← hWc]; exact gbx_rd (gbx_new (E := ETw) Wb _))
    replace T := Lib.hid (show Tp w gc n A Wc ⟨0, x1, x2, x3, Z1, z1, y1, none, 0, 0, none, 0, 0⟩ ts [] [] b20 e20 by rw [← hWc]; exact T.out.below (below_new _ _))
    have HWc := Lib.hid hWc
    have LT : Hid (ts.length + 1 ≤ 100000) := Lib.hid (by have := TL.out; omega)
    have BZ : Hid (w.heap.size + 2 ≤ Wc.heap.size) := Lib.hid (by have := T.out.new; have := tbx_lt15 T.out.box; omega)
    clear hWb hWc X
    go_wp2_with (first | (rw [HWb.out]) | ((with_reducible refine gwl_load TTw wr.heap.size 0 XR.out ?_ ?_ ?_); rfl; rfl) | ((with_reducible refine gwl_bs TTw (s := (⟨x17, x18, x19, x20⟩ : Tw)) ?_ (fill_tw15 _) ?_ (by decide)); rfl; rw [HWc.out]) | (at_builtin; refine stop_of ?_))
    clear hcell hfree hc4 HWb HWc XR
    refine stop_end ?_
    refine gpl_app TTw rfl (.tmp 65) (.tmp 67) rfl (w.heap.size + 2) (.slice Z1 z1 y1) ts rfl T.out.ot _ 1 1 [(⟨x17, x18, x19, x20⟩ : Tw)] rfl RD.out (fun e => by cases e) LT.out BZ.out ?_
    intro v9 w9 o9 g9 _
    obtain ⟨Z9, z9, y9, rfl⟩ := gown_any o9
    have TB := T.out.appT g9 o9
    have hcell : w9.cell? ⟨gc, 4, none⟩ = some (.slice Z1 z1 y1) := rv_c15 TB.1 rfl
    have hfree : w9.frozen? ⟨gc, 4, none⟩ = false := gbx_fz TB.1 4
    replace T := Lib.hid (show Tp w gc n A (w9.setCell ⟨gc, 4, none⟩ (.slice Z9 z9 y9)) ⟨0, x1, x2, x3, Z9, z9, y9, none, 0, 0, none, 0, 0⟩ (ts ++ [(⟨x17, x18, x19, x20⟩ : Tw)]) [] [] b20 e20 from TB.2)
    clear TB o9 g9 RD LT BZ
    have NI := Lib.hid (rL_next hlt (show tR b 0 = ((⟨x17, x18, x19, x20⟩ : Tw), b20, e20) by simp only [tR, HR17.out, HR18.out, HR19.out, HR20.out]) INV.out)
    go_wp2_with fail
    go_roundw
    case rel => exact ⟨k + 1, Z9, z9, y9, _, _, _, hlt, by first | rfl | go_num, T.out, NI.out, by rw [List.length_append, TL.out]; rfl⟩
    case measure => simp [intOf]; omega
end Go.Proofs.YtbmlpokkojhhjaaGreat.Wt
