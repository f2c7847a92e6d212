/- Texts of a proof, laid together: Wfv, Wdw, Wea. -/
import Derived.Test.YtbmlpokkojhhjaaG31
import Derived.Test.YtbmlpokkojhhjaaG15
/- Plain: what the program's ReadReply reads, as a function; where there is no fault it is the document's. -/
namespace Go.Proofs.Ytbmlpokkojhhjaa.Wz
open Go.RowKit
set_option linter.unusedVariables false
set_option linter.unusedSimpArgs false

section
variable {α : Type} {f : List Int → Int → α × List Int × Int}
/-- So many of a list, whatever faults come. -/
def rK (f : List Int → Int → α × List Int × Int) (b : List Int) (e : Int) : Nat → List α × List Int × Int
  | 0 => ([], b, e)
  | k + 1 => ((rK f b e k).1 ++ [(f (rK f b e k).2.1 (rK f b e k).2.2).1], (f (rK f b e k).2.1 (rK f b e k).2.2).2)
theorem rK_cons (f : List Int → Int → α × List Int × Int) (b : List Int) (e : Int) : ∀ k, rK f b e (k + 1) = ((f b e).1 :: (rK f (f b e).2.1 (f b e).2.2 k).1, (rK f (f b e).2.1 (f b e).2.2 k).2)
  | 0 => rfl
  | k + 1 => by
    have ih := rK_cons f b e k
    have e1 : rK f b e (k + 2) = ((rK f b e (k + 1)).1 ++ [(f (rK f b e (k + 1)).2.1 (rK f b e (k + 1)).2.2).1], (f (rK f b e (k + 1)).2.1 (rK f b e (k + 1)).2.2).2) := rfl
    rw [e1, ih]
    rfl
theorem rK_len (f : List Int → Int → α × List Int × Int) (b : List Int) (e : Int) : ∀ k, (rK f b e k).1.length = k
  | 0 => rfl
  | k + 1 => by
    show ((rK f b e k).1 ++ [_]).length = k + 1
    rw [List.length_append, rK_len f b e k]
    rfl
theorem rK_start (hs : ∀ b e, (f b e).2.2 = 0 → e = 0) : ∀ k b e, (rK f b e k).2.2 = 0 → e = 0
  | 0, b, e, h => h
  | k + 1, b, e, h => rK_start hs k b e (hs _ _ h)
theorem rK_eq (hs : ∀ b e, (f b e).2.2 = 0 → e = 0) : ∀ n b e, (rK f b e n).2.2 = 0 ∨ (Wt.rL f n b e).2.2 = 0 → Wt.rL f n b e = rK f b e n
  | 0, b, e, h => rfl
  | n + 1, b, e, h => by
    have e0 : e = 0 := by
      rcases h with h | h
      · exact rK_start hs _ _ _ h
      · refine Classical.byContradiction fun c => ?_
        rw [Wt.rL_stuck c] at h
        exact c h
    subst e0
    have e1 : Wt.rL f (n + 1) b 0 = ((f b 0).1 :: (Wt.rL f n (f b 0).2.1 (f b 0).2.2).1, (Wt.rL f n (f b 0).2.1 (f b 0).2.2).2) := by
      conv => lhs; unfold Wt.rL
      rw [if_neg (by simp)]
    rw [e1, rK_cons] at h ⊢
    rw [rK_eq hs n _ _ h]
def nK (f : List Int → Int → α × List Int × Int) (b : List Int) (e : Int) : List α × List Int × Int := rK f (sR b e 4000).2.1 (sR b e 4000).2.2 (sR b e 4000).1.toNat
theorem nK_start (hs : ∀ b e, (f b e).2.2 = 0 → e = 0) {b : List Int} {e : Int} (h : (nK f b e).2.2 = 0) : e = 0 := sR_start (rK_start hs _ _ _ h)
theorem nK_eq (hs : ∀ b e, (f b e).2.2 = 0 → e = 0) {b : List Int} {e : Int} (h : (nK f b e).2.2 = 0 ∨ (Wt.nL f b e).2.2 = 0) : Wt.nL f b e = nK f b e := rK_eq hs _ _ _ h
theorem rK_by (hf : ∀ b e, By b → By (f b e).2.1 ∧ (f b e).2.1.length ≤ b.length) {b : List Int} (hy : By b) (e : Int) : ∀ k, By (rK f b e k).2.1 ∧ (rK f b e k).2.1.length ≤ b.length
  | 0 => ⟨hy, Nat.le_refl _⟩
  | k + 1 => by
    have ih := rK_by hf hy e k
    have h := hf _ (rK f b e k).2.2 ih.1
    exact ⟨h.1, Nat.le_trans h.2 ih.2⟩
theorem nK_by (hf : ∀ b e, By b → By (f b e).2.1 ∧ (f b e).2.1.length ≤ b.length) {b : List Int} (hy : By b) (e : Int) : By (nK f b e).2.1 ∧ (nK f b e).2.1.length ≤ b.length := by
  have h := sR_by hy e 4000
  have k := rK_by hf h.1 (sR b e 4000).2.2 (sR b e 4000).1.toNat
  exact ⟨k.1, Nat.le_trans k.2 h.2⟩
end
theorem tR_start : ∀ b e, (Wt.tR b e).2.2 = 0 → e = 0 := fun b e h => iR_start (iR_start (sR_start (sR_start h)))
theorem gR_start : ∀ b e, (Wt.gR b e).2.2 = 0 → e = 0 := fun b e h => sR_start h
theorem aR_start : ∀ b e, (Wt.aR b e).2.2 = 0 → e = 0 := fun b e h => sR_start h
theorem tR_by : ∀ b e, By b → By (Wt.tR b e).2.1 ∧ (Wt.tR b e).2.1.length ≤ b.length := fun b e hy => by
  have h1 := iR_by hy e
  have h2 := iR_by h1.1 (iR b e).2.2
  have h3 := sR_by h2.1 (iR (iR b e).2.1 (iR b e).2.2).2.2 top
  have h4 := sR_by h3.1 (sR (iR (iR b e).2.1 (iR b e).2.2).2.1 (iR (iR b e).2.1 (iR b e).2.2).2.2 top).2.2 4294967295
  exact ⟨h4.1, Nat.le_trans h4.2 (Nat.le_trans h3.2 (Nat.le_trans h2.2 h1.2))⟩
theorem gR_by : ∀ b e, By b → By (Wt.gR b e).2.1 ∧ (Wt.gR b e).2.1.length ≤ b.length := fun b e hy => sR_by hy e top
theorem aR_by : ∀ b e, By b → By (Wt.aR b e).2.1 ∧ (Wt.aR b e).2.1.length ≤ b.length := fun b e hy => sR_by hy e 4294967295
/-- A reply read by the program. -/
def qR (bs : List Int) : Rw × List Int × Int :=
  if (sR bs 0 999).1 = 0 then
    let u := sR (sR bs 0 999).2.1 (sR bs 0 999).2.2 top
    let f := iR u.2.1 u.2.2
    let l := iR f.2.1 f.2.2
    let t := nK Wt.tR l.2.1 l.2.2
    let g := nK Wt.gR t.2.1 t.2.2
    let a := nK Wt.aR g.2.1 g.2.2
    (⟨0, u.1, f.1, l.1, t.1, g.1, a.1⟩, a.2)
  else (⟨(sR bs 0 999).1, 0, 0, 0, [], [], []⟩, (sR bs 0 999).2)
theorem q_eq {bs : List Int} (h : (qR bs).2.2 = 0 ∨ (Wt.pR bs).2.2 = 0) : Wt.pR bs = qR bs := by
  unfold qR Wt.pR at h ⊢
  generalize sR bs 0 999 = s at *
  by_cases c1 : s.1 = 0
  · by_cases c2 : s.2.2 = 0
    · rw [if_pos c1, if_pos ⟨c1, c2⟩] at h ⊢
      dsimp only at h ⊢
      generalize sR s.2.1 s.2.2 top = u at *
      generalize iR u.2.1 u.2.2 = f at *
      generalize iR f.2.1 f.2.2 = l at *
      rcases h with h | h
      · have h5 := nK_start aR_start h
        have h4 := nK_start gR_start h5
        have e1 := nK_eq tR_start (.inl h4)
        rw [e1]
        have e2 := nK_eq gR_start (.inl h5)
        rw [e2]
        rw [nK_eq aR_start (.inl h)]
      · have h5 := Wt.nL_start h
        have h4 := Wt.nL_start h5
        have e1 := nK_eq tR_start (.inr h4)
        rw [e1] at h h5 ⊢
        have e2 := nK_eq gR_start (.inr h5)
        rw [e2] at h ⊢
        rw [nK_eq aR_start (.inr h)]
    · exfalso
      rw [if_pos c1, if_neg fun k => c2 k.2] at h
      dsimp only at h
      rcases h with h | h
      · exact c2 (sR_start (iR_start (iR_start (nK_start tR_start (nK_start gR_start (nK_start aR_start h))))))
      · exact c2 h
  · rw [if_neg c1, if_neg fun k => c1 k.1]
theorem q_yes {bs : List Int} (hy : By bs) (h : (if (qR bs).2.2 = 0 ∧ 0 < (qR bs).2.1.length then (5 : Int) else (qR bs).2.2) = 0) : IsR bs (qR bs).1 := by
  have e0 : (qR bs).2.2 = 0 := by
    by_cases c : (qR bs).2.2 = 0 ∧ 0 < (qR bs).2.1.length
    · exact c.1
    · rw [if_neg c] at h; exact h
  have b0 : (qR bs).2.1 = [] := by
    cases hb : (qR bs).2.1 with
    | nil => rfl
    | cons x l => rw [if_pos ⟨e0, by rw [hb]; simp⟩] at h; cases h
  have e := q_eq (.inl e0)
  rw [← e]
  exact Wt.pR_back hy (by rw [e]; exact Prod.ext b0 e0)
theorem q_no {bs : List Int} (h : (if (qR bs).2.2 = 0 ∧ 0 < (qR bs).2.1.length then (5 : Int) else (qR bs).2.2) ≠ 0) (d : Rw) : ¬ IsR bs d := by
  refine Wt.pR_none (fun c => h ?_) d
  have e := q_eq (bs := bs) (.inr (by rw [c]))
  rw [← e, c]
  simp
end Go.Proofs.Ytbmlpokkojhhjaa.Wz
/- The document's CopyReply (by genWdw.py). -/
namespace Go.Proofs.Ytbmlpokkojhhjaa
open Go.RowKit
set_option linter.unusedVariables false
set_option linter.unusedSimpArgs false

theorem info_n615 : ∃ z by', (Try.prog.info? 24).map (fun i => (i.zero, i.size, i.bytes)) = some (some z, 1, by') ∧ z.cells.size = 1 ∧ by' ≤ 4096 := ⟨.int .u64 0, 8, by kernel_rfl, rfl, by decide⟩
theorem n6_app15 {w : World} {ops : Array Oper} {rest : List Oper} {o : Oper} {a : Act} {Q : Exit → Act → World → Prop} (hgd : o.guard = none) (s x : Operand)
    (ho : o.op = .call { callee := .builtin .append, args := #[s, x], argTypes := #[41, 41] }) (base : Nat) (v : Value) (xs : List Int) (hs : a.eval s = v)
    (hown : E6w.Own 24 w base v xs) (A : Option Addr) (m c : Nat) (l : List Int) (hx : a.eval x = .slice A m c) (hr : E6w.Rd w A m l) (h0 : A = none → c = 0) (hlen : xs.length + m ≤ 100000) (hbase : base ≤ w.heap.size)
    (h : ∀ v' w', E6w.Own 24 w' base v' (xs ++ l) → w.grownBy w' v.ownBlock → wpList Try.prog ops Q rest (a.put o.dst v') w') : wpList Try.prog ops Q (o :: rest) a w := by
  obtain ⟨z, by', hi, hzs, hby⟩ := info_n615
  obtain ⟨i0, hi0, hz0, hz1, hz2⟩ := info_parts hi
  have el : (xs ++ l).length = xs.length + m := by rw [List.length_append, hr.1]
  cases A with
  | none =>
    have hm := hr.2.1 rfl
    have hc := h0 rfl
    subst hm hc
    have e : l = [] := List.eq_nil_of_length_eq_zero hr.1
    subst e
    refine wpList_append_own_none hgd s x 41 ho base 24 i0 1 Try.underlying41 hi0 v xs.length (E6w.flat xs) hs hown hx ?_
    exact h v w (by rw [List.append_nil]; exact hown) (World.grownBy.refl _ _)
  | some ad =>
    refine wpList_append_own_at w hgd s x 41 ho base 24 i0 z 1 by' Try.underlying41 hi0 hz0 hz1 hz2 hzs (by decide) v xs.length (E6w.flat xs) hs hown ad m c (E6w.flat l) hx ?_ (grd_news hr) (gflat_cells _) (by unfold maxLen; omega) ?_ hbase fun v' w' h2 h3 _ h5 => h v' w' (by unfold Elt.Own; rw [el, gflat_app]; exact h2) h3
    · rw [gflat_len, hr.1]; rfl
    · have := Nat.mul_le_mul hlen hby
      omega
theorem info_n315 : ∃ z by', (Try.prog.info? 23).map (fun i => (i.zero, i.size, i.bytes)) = some (some z, 1, by') ∧ z.cells.size = 1 ∧ by' ≤ 4096 := ⟨.int .u32 0, 4, by kernel_rfl, rfl, by decide⟩
theorem n3_app15 {w : World} {ops : Array Oper} {rest : List Oper} {o : Oper} {a : Act} {Q : Exit → Act → World → Prop} (hgd : o.guard = none) (s x : Operand)
    (ho : o.op = .call { callee := .builtin .append, args := #[s, x], argTypes := #[42, 42] }) (base : Nat) (v : Value) (xs : List Int) (hs : a.eval s = v)
    (hown : E3w.Own 23 w base v xs) (A : Option Addr) (m c : Nat) (l : List Int) (hx : a.eval x = .slice A m c) (hr : E3w.Rd w A m l) (h0 : A = none → c = 0) (hlen : xs.length + m ≤ 100000) (hbase : base ≤ w.heap.size)
    (h : ∀ v' w', E3w.Own 23 w' base v' (xs ++ l) → w.grownBy w' v.ownBlock → wpList Try.prog ops Q rest (a.put o.dst v') w') : wpList Try.prog ops Q (o :: rest) a w := by
  obtain ⟨z, by', hi, hzs, hby⟩ := info_n315
  obtain ⟨i0, hi0, hz0, hz1, hz2⟩ := info_parts hi
  have el : (xs ++ l).length = xs.length + m := by rw [List.length_append, hr.1]
  cases A with
  | none =>
    have hm := hr.2.1 rfl
    have hc := h0 rfl
    subst hm hc
    have e : l = [] := List.eq_nil_of_length_eq_zero hr.1
    subst e
    refine wpList_append_own_none hgd s x 42 ho base 23 i0 1 Try.underlying42 hi0 v xs.length (E3w.flat xs) hs hown hx ?_
    exact h v w (by rw [List.append_nil]; exact hown) (World.grownBy.refl _ _)
  | some ad =>
    refine wpList_append_own_at w hgd s x 42 ho base 23 i0 z 1 by' Try.underlying42 hi0 hz0 hz1 hz2 hzs (by decide) v xs.length (E3w.flat xs) hs hown ad m c (E3w.flat l) hx ?_ (grd_news hr) (gflat_cells _) (by unfold maxLen; omega) ?_ hbase fun v' w' h2 h3 _ h5 => h v' w' (by unfold Elt.Own; rw [el, gflat_app]; exact h2) h3
    · rw [gflat_len, hr.1]; rfl
    · have := Nat.mul_le_mul hlen hby
      omega
theorem gown_capn15 {α : Type} {E : Elt α} {te : TypeId} {W : World} {B n c : Nat} {A : Option Addr} {xs : List α} (h : E.Own te W B (.slice A n c) xs) : n ≤ c ∧ c ≤ maxLen := by
  rcases h.2 with ⟨e, _⟩ | ⟨b', c', cur, e, _, _, h1, h2, _⟩
  · cases e; exact ⟨Nat.le_refl _, Nat.zero_le _⟩
  · cases e; exact ⟨h1, h2⟩
theorem own_ne15 {g N : Nat} (h : g ≠ N) : ¬ (Value.slice (some ⟨N, 0, none⟩) 0 0).ownBlock = some g := fun e => h (Option.some.inj e).symm
theorem tbx_lt15 {α : Type} {E : Elt α} {te : TypeId} {w : World} {g : Nat} {x : α} (h : E.Bx te w g x) : g < w.heap.size := (Array.getElem?_eq_some_iff.1 h).1
theorem own_keep15 {α : Type} {E : Elt α} {te : TypeId} {V W : World} {B : Nat} {v : Value} {xs : List α} (h : E.Own te V B v xs) (hb : ∀ k, B ≤ k → k < V.heap.size → W.heap[k]? = V.heap[k]?) : E.Own te W B v xs :=
  gown_same h fun k hk => hb k (gown_lt h hk).1 (gown_lt h hk).2
theorem rv_set15 {w : World} {g i : Nat} {te : TypeId} {v v' : Rv} {u : Value} (h : ERv.Bx te w g v) (e : ERv.cells v' = (ERv.cells v).set i u) : ERv.Bx te (w.setCell ⟨g, i, none⟩ u) g v' := gbx_put h e
set_option maxRecDepth 100000 in
set_option maxHeartbeats 32000000 in
theorem rcopy15 (v : Rv) (r : Rw) (w : World) (vo : v.ok) (vi : v.In w r) (hl : v.tl ≤ 5000 ∧ v.gl ≤ 5000 ∧ v.al ≤ 5000) : Calls Try.prog 14 #[.agg (ERv.cells v).toArray] w fun e w' => ∃ v' : Rv, e = .returned (.agg (ERv.cells v').toArray) ∧ v'.ok ∧ v'.In w' r ∧ Below w.heap.size w w' := by
  have hzr := zero_rv15
  obtain ⟨hl1, hl2, hl3⟩ := hl
  obtain ⟨W1, hW1⟩ : ∃ W, w.alloc (.cells (ERv.cells v).toArray 44) = W := ⟨_, rfl⟩
  obtain ⟨W2, hW2⟩ : ∃ W, W1.alloc (.cells (ERv.cells zeroRv).toArray 44) = W := ⟨_, rfl⟩
  have b1 : Below w.heap.size w W1 := by rw [← hW1]; exact below_new _ _
  have x1 : ERv.Bx 44 W2 w.heap.size v := by rw [← hW2]; exact gbx_below (by rw [← hW1]; exact gbx_new w v) (below_new _ _)
  have x2 : ERv.Bx 44 W2 W1.heap.size zeroRv := by rw [← hW2]; exact gbx_new W1 _
  have b2 : Below w.heap.size w W2 := by rw [← hW2]; exact b1.alloc b1.size _
  have s12 : W1.heap.size = w.heap.size + 1 := by rw [← hW1]; simp
  obtain ⟨g1, hg1⟩ : ∃ g, w.heap.size = g := ⟨_, rfl⟩
  obtain ⟨g2, hg2⟩ : ∃ g, W1.heap.size = g := ⟨_, rfl⟩
  rw [hg1] at x1
  rw [hg2] at x2
  have sg : g1 < g2 ∧ g2 < W2.heap.size := ⟨by omega, (Array.getElem?_eq_some_iff.1 x2).1⟩
  have SG := Lib.hid sg
  have VI := Lib.hid fun (W : World) (q : Below w.heap.size w W) => vi.below q
  have T0 := Lib.hid vo.t0
  have G0 := Lib.hid vo.g0
  have A0 := Lib.hid vo.a0
  have X1 := Lib.hid x1
  have X2 := Lib.hid x2
  have B2 := Lib.hid b2
  have HW1 := Lib.hid hW1
  have HW2 := Lib.hid hW2
  have HG1 := Lib.hid hg1
  have HG2 := Lib.hid hg2
  have LT := Lib.hid vi.tr.1
  have LG := Lib.hid vi.go.1
  have LA := Lib.hid vi.ac.1
  have EI : Hid (v.er = r.er ∧ v.nu = r.nu ∧ v.fi = r.fi ∧ v.le = r.le) := Lib.hid ⟨vi.er, vi.nu, vi.fi, vi.le⟩
  clear hW1 hW2 b1 b2 x1 x2 s12 hg1 hg2 sg vo vi
  go_enter Try.func14, Try.ntmps14
  have X1_2 := X1
  have X2_2 := X2
  have BL2 : Hid (g2 < W2.heap.size) := Lib.hid SG.out.2
  obtain ⟨Wa2, hWa2⟩ : ∃ W, W2.alloc (.cells #[] 79) = W := ⟨_, rfl⟩
  have ba2 : Below W2.heap.size W2 Wa2 := by rw [← hWa2]; exact below_new _ _
  have O2 := Lib.hid (show ETw.Own 79 Wa2 W2.heap.size (.slice (some ⟨W2.heap.size, 0, none⟩) 0 0) [] by rw [← hWa2]; exact gown_new _)
  have BA2 := Lib.hid ba2
  have Ba2 := Lib.hid (B2.out.trans (ba2.mono B2.out.size))
  have Xa2 := Lib.hid (gbx_below X1_2.out ba2)
  have Ya2 := Lib.hid (gbx_below X2_2.out ba2)
  have RD2 := Lib.hid ((VI.out Wa2 Ba2.out).tr)
  have kc2 : Wa2.cell? ⟨g1, 4, none⟩ = some (.slice v.tA v.tl v.tc) := rv_c15 Xa2.out rfl
  have HWa2 := Lib.hid hWa2
  clear hWa2 ba2
  go_wp2_with (first | (rw [HW1.out, HG1.out]) | (rw [HW2.out, HG2.out]) | (rw [HWa2.out]) | (at_builtin; refine stop_of ?_))
  refine stop_end ?_
  refine gpl_app TTw rfl (.tmp 3) (.tmp 5) rfl W2.heap.size (.slice (some ⟨W2.heap.size, 0, none⟩) 0 0) [] rfl O2.out v.tA v.tl v.tc r.tr rfl RD2.out T0.out (by rw [List.length_nil]; omega) BA2.out.size ?_
  intro v9 w9 o9 g9 _
  rw [List.nil_append] at o9
  obtain ⟨Z2, z2, hv9, hz9⟩ := gown_form o9
  subst hv9
  have NE2 : ∀ j, j < W2.heap.size → ¬ (some j = (Value.slice (some ⟨W2.heap.size, 0, none⟩) 0 0).ownBlock) := fun j hj e => own_ne15 (Nat.ne_of_lt hj) e.symm
  have XB2 := Lib.hid (show ERv.Bx 44 w9 g1 (⟨v.er, v.nu, v.fi, v.le, v.tA, v.tl, v.tc, v.gA, v.gl, v.gc, v.aA, v.al, v.ac⟩ : Rv) from (g9.block g1 (tbx_lt15 Xa2.out) (NE2 g1 (by have h5 := SG.out; have h7 := BL2.out; omega))).trans Xa2.out)
  have YB2 := Lib.hid (show ERv.Bx 44 w9 g2 zeroRv from (g9.block g2 (tbx_lt15 Ya2.out) (NE2 g2 BL2.out)).trans Ya2.out)
  have bb2 : Below w.heap.size w w9 := Ba2.out.grown g9 Ba2.out.size (fun j hj => by have := own_ne15 (g := j) (N := W2.heap.size); have h9 := B2.out.size; by_cases hh : j = W2.heap.size; omega; exact absurd hj (this hh))
  have kc' : w9.cell? ⟨g1, 4, none⟩ = some (.slice v.tA v.tl v.tc) := rv_c15 XB2.out rfl
  have kf' : w9.frozen? ⟨g1, 4, none⟩ = false := gbx_fz XB2.out _
  obtain ⟨W3, hW3⟩ : ∃ W, w9.setCell ⟨g1, 4, none⟩ (.slice Z2 r.tr.length z2) = W := ⟨_, rfl⟩
  have X1_3 : Hid (ERv.Bx 44 W3 g1 (⟨v.er, v.nu, v.fi, v.le, Z2, r.tr.length, z2, v.gA, v.gl, v.gc, v.aA, v.al, v.ac⟩ : Rv)) := Lib.hid (by rw [← hW3]; exact rv_set15 XB2.out rfl)
  have X2_3 : Hid (ERv.Bx 44 W3 g2 zeroRv) := Lib.hid (by rw [← hW3]; exact (heap_setCell_other _ _ _ _ (by show g2 ≠ g1; have := SG.out; omega)).trans YB2.out)
  have B3 : Hid (Below w.heap.size w W3) := Lib.hid (by rw [← hW3]; exact bb2.setCell (show w.heap.size ≤ g1 by have := HG1.out; omega) _)
  have BL3 : Hid (g2 < W3.heap.size) := Lib.hid (tbx_lt15 X2_3.out)
  have HZ2 := Lib.hid hz9
  have OW2_3 : Hid (ETw.Own 79 W3 W2.heap.size (.slice Z2 r.tr.length z2) r.tr) := Lib.hid (by rw [← hW3]; exact own_keep15 o9 fun j h1 h2 => heap_setCell_other _ _ _ _ (by show j ≠ g1; have := SG.out; have := BL2.out; omega))
  have HW3 := Lib.hid hW3
  clear hW3 o9 g9 hz9 NE2 bb2 kc2
  obtain ⟨Wa3, hWa3⟩ : ∃ W, W3.alloc (.cells #[] 24) = W := ⟨_, rfl⟩
  have ba3 : Below W3.heap.size W3 Wa3 := by rw [← hWa3]; exact below_new _ _
  have O3 := Lib.hid (show E6w.Own 24 Wa3 W3.heap.size (.slice (some ⟨W3.heap.size, 0, none⟩) 0 0) [] by rw [← hWa3]; exact gown_new _)
  have BA3 := Lib.hid ba3
  have Ba3 := Lib.hid (B3.out.trans (ba3.mono B3.out.size))
  have Xa3 := Lib.hid (gbx_below X1_3.out ba3)
  have Ya3 := Lib.hid (gbx_below X2_3.out ba3)
  have RD3 := Lib.hid ((VI.out Wa3 Ba3.out).go)
  have kc3 : Wa3.cell? ⟨g1, 5, none⟩ = some (.slice v.gA v.gl v.gc) := rv_c15 Xa3.out rfl
  have HWa3 := Lib.hid hWa3
  have OA2_3 := Lib.hid (gown_below OW2_3.out ba3)
  clear hWa3 ba3
  go_wp2_with (first | (rw [HW1.out, HG1.out]) | (rw [HW2.out, HG2.out]) | (rw [HWa3.out]) | (rw [HW3.out]) | (at_builtin; refine stop_of ?_))
  refine stop_end ?_
  refine n6_app15 rfl (.tmp 8) (.tmp 10) rfl W3.heap.size (.slice (some ⟨W3.heap.size, 0, none⟩) 0 0) [] rfl O3.out v.gA v.gl v.gc r.go rfl RD3.out G0.out (by rw [List.length_nil]; omega) BA3.out.size ?_
  intro v9 w9 o9 g9
  rw [List.nil_append] at o9
  obtain ⟨Z3, z3, hv9, hz9⟩ := gown_form o9
  subst hv9
  have NE3 : ∀ j, j < W3.heap.size → ¬ (some j = (Value.slice (some ⟨W3.heap.size, 0, none⟩) 0 0).ownBlock) := fun j hj e => own_ne15 (Nat.ne_of_lt hj) e.symm
  have XB3 := Lib.hid (show ERv.Bx 44 w9 g1 (⟨v.er, v.nu, v.fi, v.le, Z2, r.tr.length, z2, v.gA, v.gl, v.gc, v.aA, v.al, v.ac⟩ : Rv) from (g9.block g1 (tbx_lt15 Xa3.out) (NE3 g1 (by have h5 := SG.out; have h7 := BL3.out; omega))).trans Xa3.out)
  have YB3 := Lib.hid (show ERv.Bx 44 w9 g2 zeroRv from (g9.block g2 (tbx_lt15 Ya3.out) (NE3 g2 BL3.out)).trans Ya3.out)
  have bb3 : Below w.heap.size w w9 := Ba3.out.grown g9 Ba3.out.size (fun j hj => by have := own_ne15 (g := j) (N := W3.heap.size); have h9 := B3.out.size; by_cases hh : j = W3.heap.size; omega; exact absurd hj (this hh))
  have kc' : w9.cell? ⟨g1, 5, none⟩ = some (.slice v.gA v.gl v.gc) := rv_c15 XB3.out rfl
  have kf' : w9.frozen? ⟨g1, 5, none⟩ = false := gbx_fz XB3.out _
  obtain ⟨W4, hW4⟩ : ∃ W, w9.setCell ⟨g1, 5, none⟩ (.slice Z3 r.go.length z3) = W := ⟨_, rfl⟩
  have X1_4 : Hid (ERv.Bx 44 W4 g1 (⟨v.er, v.nu, v.fi, v.le, Z2, r.tr.length, z2, Z3, r.go.length, z3, v.aA, v.al, v.ac⟩ : Rv)) := Lib.hid (by rw [← hW4]; exact rv_set15 XB3.out rfl)
  have X2_4 : Hid (ERv.Bx 44 W4 g2 zeroRv) := Lib.hid (by rw [← hW4]; exact (heap_setCell_other _ _ _ _ (by show g2 ≠ g1; have := SG.out; omega)).trans YB3.out)
  have B4 : Hid (Below w.heap.size w W4) := Lib.hid (by rw [← hW4]; exact bb3.setCell (show w.heap.size ≤ g1 by have := HG1.out; omega) _)
  have BL4 : Hid (g2 < W4.heap.size) := Lib.hid (tbx_lt15 X2_4.out)
  have HZ3 := Lib.hid hz9
  have OW3_4 : Hid (E6w.Own 24 W4 W3.heap.size (.slice Z3 r.go.length z3) r.go) := Lib.hid (by rw [← hW4]; exact own_keep15 o9 fun j h1 h2 => heap_setCell_other _ _ _ _ (by show j ≠ g1; have := SG.out; have := BL3.out; omega))
  have OW2_4 : Hid (ETw.Own 79 W4 W2.heap.size (.slice Z2 r.tr.length z2) r.tr) := Lib.hid (by rw [← hW4]; exact own_keep15 (gown_same OA2_3.out fun m hm => g9.block m (gown_lt OA2_3.out hm).2 (NE3 m (gown_lt OW2_3.out hm).2)) fun j h1 h2 => heap_setCell_other _ _ _ _ (by show j ≠ g1; have := SG.out; have := BL2.out; omega))
  have HW4 := Lib.hid hW4
  clear hW4 o9 g9 hz9 NE3 bb3 kc3
  obtain ⟨Wa4, hWa4⟩ : ∃ W, W4.alloc (.cells #[] 23) = W := ⟨_, rfl⟩
  have ba4 : Below W4.heap.size W4 Wa4 := by rw [← hWa4]; exact below_new _ _
  have O4 := Lib.hid (show E3w.Own 23 Wa4 W4.heap.size (.slice (some ⟨W4.heap.size, 0, none⟩) 0 0) [] by rw [← hWa4]; exact gown_new _)
  have BA4 := Lib.hid ba4
  have Ba4 := Lib.hid (B4.out.trans (ba4.mono B4.out.size))
  have Xa4 := Lib.hid (gbx_below X1_4.out ba4)
  have Ya4 := Lib.hid (gbx_below X2_4.out ba4)
  have RD4 := Lib.hid ((VI.out Wa4 Ba4.out).ac)
  have kc4 : Wa4.cell? ⟨g1, 6, none⟩ = some (.slice v.aA v.al v.ac) := rv_c15 Xa4.out rfl
  have HWa4 := Lib.hid hWa4
  have OA2_4 := Lib.hid (gown_below OW2_4.out ba4)
  have OA3_4 := Lib.hid (gown_below OW3_4.out ba4)
  clear hWa4 ba4
  go_wp2_with (first | (rw [HW1.out, HG1.out]) | (rw [HW2.out, HG2.out]) | (rw [HWa4.out]) | (rw [HW4.out]) | (at_builtin; refine stop_of ?_))
  refine stop_end ?_
  refine n3_app15 rfl (.tmp 13) (.tmp 15) rfl W4.heap.size (.slice (some ⟨W4.heap.size, 0, none⟩) 0 0) [] rfl O4.out v.aA v.al v.ac r.ac rfl RD4.out A0.out (by rw [List.length_nil]; omega) BA4.out.size ?_
  intro v9 w9 o9 g9
  rw [List.nil_append] at o9
  obtain ⟨Z4, z4, hv9, hz9⟩ := gown_form o9
  subst hv9
  have NE4 : ∀ j, j < W4.heap.size → ¬ (some j = (Value.slice (some ⟨W4.heap.size, 0, none⟩) 0 0).ownBlock) := fun j hj e => own_ne15 (Nat.ne_of_lt hj) e.symm
  have XB4 := Lib.hid (show ERv.Bx 44 w9 g1 (⟨v.er, v.nu, v.fi, v.le, Z2, r.tr.length, z2, Z3, r.go.length, z3, v.aA, v.al, v.ac⟩ : Rv) from (g9.block g1 (tbx_lt15 Xa4.out) (NE4 g1 (by have h5 := SG.out; have h7 := BL4.out; omega))).trans Xa4.out)
  have YB4 := Lib.hid (show ERv.Bx 44 w9 g2 zeroRv from (g9.block g2 (tbx_lt15 Ya4.out) (NE4 g2 BL4.out)).trans Ya4.out)
  have bb4 : Below w.heap.size w w9 := Ba4.out.grown g9 Ba4.out.size (fun j hj => by have := own_ne15 (g := j) (N := W4.heap.size); have h9 := B4.out.size; by_cases hh : j = W4.heap.size; omega; exact absurd hj (this hh))
  have kc' : w9.cell? ⟨g1, 6, none⟩ = some (.slice v.aA v.al v.ac) := rv_c15 XB4.out rfl
  have kf' : w9.frozen? ⟨g1, 6, none⟩ = false := gbx_fz XB4.out _
  obtain ⟨W5, hW5⟩ : ∃ W, w9.setCell ⟨g1, 6, none⟩ (.slice Z4 r.ac.length z4) = W := ⟨_, rfl⟩
  have X1_5 : Hid (ERv.Bx 44 W5 g1 (⟨v.er, v.nu, v.fi, v.le, Z2, r.tr.length, z2, Z3, r.go.length, z3, Z4, r.ac.length, z4⟩ : Rv)) := Lib.hid (by rw [← hW5]; exact rv_set15 XB4.out rfl)
  have X2_5 : Hid (ERv.Bx 44 W5 g2 zeroRv) := Lib.hid (by rw [← hW5]; exact (heap_setCell_other _ _ _ _ (by show g2 ≠ g1; have := SG.out; omega)).trans YB4.out)
  have B5 : Hid (Below w.heap.size w W5) := Lib.hid (by rw [← hW5]; exact bb4.setCell (show w.heap.size ≤ g1 by have := HG1.out; omega) _)
  have BL5 : Hid (g2 < W5.heap.size) := Lib.hid (tbx_lt15 X2_5.out)
  have HZ4 := Lib.hid hz9
  have OW4_5 : Hid (E3w.Own 23 W5 W4.heap.size (.slice Z4 r.ac.length z4) r.ac) := Lib.hid (by rw [← hW5]; exact own_keep15 o9 fun j h1 h2 => heap_setCell_other _ _ _ _ (by show j ≠ g1; have := SG.out; have := BL4.out; omega))
  have OW2_5 : Hid (ETw.Own 79 W5 W2.heap.size (.slice Z2 r.tr.length z2) r.tr) := Lib.hid (by rw [← hW5]; exact own_keep15 (gown_same OA2_4.out fun m hm => g9.block m (gown_lt OA2_4.out hm).2 (NE4 m (gown_lt OW2_4.out hm).2)) fun j h1 h2 => heap_setCell_other _ _ _ _ (by show j ≠ g1; have := SG.out; have := BL2.out; omega))
  have OW3_5 : Hid (E6w.Own 24 W5 W3.heap.size (.slice Z3 r.go.length z3) r.go) := Lib.hid (by rw [← hW5]; exact own_keep15 (gown_same OA3_4.out fun m hm => g9.block m (gown_lt OA3_4.out hm).2 (NE4 m (gown_lt OW3_4.out hm).2)) fun j h1 h2 => heap_setCell_other _ _ _ _ (by show j ≠ g1; have := SG.out; have := BL3.out; omega))
  have HW5 := Lib.hid hW5
  clear hW5 o9 g9 hz9 NE4 bb4 kc4
  have XF := Lib.hid (gbx_rng X1_5.out)
  obtain ⟨Wz, hWz⟩ : ∃ W, W5.setRow g2 (ERv.cells (⟨v.er, v.nu, v.fi, v.le, Z2, r.tr.length, z2, Z3, r.go.length, z3, Z4, r.ac.length, z4⟩ : Rv)).toArray = W := ⟨_, rfl⟩
  have HWz := Lib.hid hWz
  clear hWz
  go_wp2_with (first | (rw [HW5.out]) | ((with_reducible refine rwl_load TRv g1 0 XF.out ?_ ?_ ?_); rfl; rfl) | (refine rwl_store TRv (⟨v.er, v.nu, v.fi, v.le, Z2, r.tr.length, z2, Z3, r.go.length, z3, Z4, r.ac.length, z4⟩ : Rv) g2 X2_5.out rfl rfl ?_; rw [HWz.out]))
  have RX : Hid (ERv.Bx 44 Wz g2 (⟨v.er, v.nu, v.fi, v.le, Z2, r.tr.length, z2, Z3, r.go.length, z3, Z4, r.ac.length, z4⟩ : Rv)) := Lib.hid (by rw [← HWz.out]; exact gbx_set X2_5.out)
  have keep : ∀ j, j ≠ g2 → Wz.heap[j]? = W5.heap[j]? := fun j hj => by rw [← HWz.out]; exact setRow_other _ _ _ _ hj
  have BZ : Below w.heap.size w Wz := by rw [← HWz.out]; exact below_row0 B5.out (by have := HG1.out; have := SG.out; omega)
  have o2 := own_keep15 OW2_5.out fun j h1 h2 => keep j (by have := BL2.out; omega)
  have o3 := own_keep15 OW3_5.out fun j h1 h2 => keep j (by have := BL3.out; omega)
  have o4 := own_keep15 OW4_5.out fun j h1 h2 => keep j (by have := BL4.out; omega)
  (try simp only [Exit.inBlock, Exit.then])
  refine bodyPost_ret (rret1 TRv rfl _ Wz g2 rfl RX.out) rfl ?_
  have c2 := gown_capn15 o2
  have c3 := gown_capn15 o3
  have c4 := gown_capn15 o4
  have l2 := LT.out
  have l3 := LG.out
  have l4 := LA.out
  refine ⟨(⟨v.er, v.nu, v.fi, v.le, Z2, r.tr.length, z2, Z3, r.go.length, z3, Z4, r.ac.length, z4⟩ : Rv), rfl, ⟨by show r.tr.length ≤ maxLen; omega, by show r.go.length ≤ maxLen; omega, by show r.ac.length ≤ maxLen; omega, HZ2.out, HZ3.out, HZ4.out, c2, c3, c4⟩, ⟨EI.out.1, EI.out.2.1, EI.out.2.2.1, EI.out.2.2.2, gown_rd o2, gown_rd o3, gown_rd o4⟩, BZ⟩
end Go.Proofs.Ytbmlpokkojhhjaa
/- append of numbers at an operation (by genWea.py out of XSa's gwp_app). -/
namespace Go.Proofs.Ytbmlpokkojhhjaa
open Go.RowKit
set_option linter.unusedVariables false
set_option linter.unusedSimpArgs false

theorem n6_wp15 {w : World} {o : Oper} {a : Act} {K : Act → World → Prop} {Q : Exit → Act → World → Prop} (s x : Operand)
    (ho : o.op = .call { callee := .builtin .append, args := #[s, x], argTypes := #[41, 41] }) (base : Nat) (v : Value) (xs : List Int) (hs : a.eval s = v)
    (hown : E6w.Own 24 w base v xs) (A : Option Addr) (m c : Nat) (l : List Int) (hx : a.eval x = .slice A m c) (hr : E6w.Rd w A m l) (h0 : A = none → c = 0) (hlen : xs.length + m ≤ 100000) (hbase : base ≤ w.heap.size)
    (h : ∀ v' w', E6w.Own 24 w' base v' (xs ++ l) → w.grownBy w' v.ownBlock → (v'.ownBlock = v.ownBlock ∨ v'.ownBlock = some w.heap.size) → K (a.put o.dst v') w') : o.wp Try.prog a w K Q := by
  obtain ⟨z, by', hi, hzs, hby⟩ := info_n615
  obtain ⟨i0, hi0, hz0, hz1, hz2⟩ := info_parts hi
  have el : (xs ++ l).length = xs.length + m := by rw [List.length_append, hr.1]
  cases A with
  | none =>
    have hm := hr.2.1 rfl
    have hc := h0 rfl
    subst hm hc
    have e : l = [] := List.eq_nil_of_length_eq_zero hr.1
    subst e
    have hrun := run_append_owned_none (P := Try.prog) (w := w) base 41 o.type 24 i0 1 Try.underlying41 hi0 v xs.length (E6w.flat xs) hown
    unfold Oper.wp
    simp [execOp, ho, resolve, invoke, builtin, hs, hx, hrun, Result.andThen]
    exact h v w (by rw [List.append_nil]; exact hown) (World.grownBy.refl _ _) (.inl rfl)
  | some ad =>
    obtain ⟨v', w', hrun, h2, h3, h4, h5⟩ := run_append_own_at (P := Try.prog) w base 41 o.type 24 i0 z 1 by' Try.underlying41 hi0 hz0 hz1 hz2 hzs (by decide) v xs.length (E6w.flat xs) hown ad m c (E6w.flat l) (by rw [gflat_len, hr.1]; rfl) (grd_news hr) (gflat_cells _) (by unfold maxLen; omega) (by have := Nat.mul_le_mul hlen hby; omega) hbase
    unfold Oper.wp execOp
    simp only [ho, resolve, invoke, builtin, Sem.run_bind, Sem.run_pure, Result.andThen_ok, List.map_toArray, List.map_cons, List.map_nil, hs, hx, hrun]
    exact h v' w' (by unfold Elt.Own; rw [el, gflat_app]; exact h2) h3 h5
theorem n3_wp15 {w : World} {o : Oper} {a : Act} {K : Act → World → Prop} {Q : Exit → Act → World → Prop} (s x : Operand)
    (ho : o.op = .call { callee := .builtin .append, args := #[s, x], argTypes := #[42, 42] }) (base : Nat) (v : Value) (xs : List Int) (hs : a.eval s = v)
    (hown : E3w.Own 23 w base v xs) (A : Option Addr) (m c : Nat) (l : List Int) (hx : a.eval x = .slice A m c) (hr : E3w.Rd w A m l) (h0 : A = none → c = 0) (hlen : xs.length + m ≤ 100000) (hbase : base ≤ w.heap.size)
    (h : ∀ v' w', E3w.Own 23 w' base v' (xs ++ l) → w.grownBy w' v.ownBlock → (v'.ownBlock = v.ownBlock ∨ v'.ownBlock = some w.heap.size) → K (a.put o.dst v') w') : o.wp Try.prog a w K Q := by
  obtain ⟨z, by', hi, hzs, hby⟩ := info_n315
  obtain ⟨i0, hi0, hz0, hz1, hz2⟩ := info_parts hi
  have el : (xs ++ l).length = xs.length + m := by rw [List.length_append, hr.1]
  cases A with
  | none =>
    have hm := hr.2.1 rfl
    have hc := h0 rfl
    subst hm hc
    have e : l = [] := List.eq_nil_of_length_eq_zero hr.1
    subst e
    have hrun := run_append_owned_none (P := Try.prog) (w := w) base 42 o.type 23 i0 1 Try.underlying42 hi0 v xs.length (E3w.flat xs) hown
    unfold Oper.wp
    simp [execOp, ho, resolve, invoke, builtin, hs, hx, hrun, Result.andThen]
    exact h v w (by rw [List.append_nil]; exact hown) (World.grownBy.refl _ _) (.inl rfl)
  | some ad =>
    obtain ⟨v', w', hrun, h2, h3, h4, h5⟩ := run_append_own_at (P := Try.prog) w base 42 o.type 23 i0 z 1 by' Try.underlying42 hi0 hz0 hz1 hz2 hzs (by decide) v xs.length (E3w.flat xs) hown ad m c (E3w.flat l) (by rw [gflat_len, hr.1]; rfl) (grd_news hr) (gflat_cells _) (by unfold maxLen; omega) (by have := Nat.mul_le_mul hlen hby; omega) hbase
    unfold Oper.wp execOp
    simp only [ho, resolve, invoke, builtin, Sem.run_bind, Sem.run_pure, Result.andThen_ok, List.map_toArray, List.map_cons, List.map_nil, hs, hx, hrun]
    exact h v' w' (by unfold Elt.Own; rw [el, gflat_app]; exact h2) h3 h5
end Go.Proofs.Ytbmlpokkojhhjaa
