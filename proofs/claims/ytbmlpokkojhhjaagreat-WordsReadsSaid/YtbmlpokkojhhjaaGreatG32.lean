/- Texts of a proof, laid together: Wfv, Wdw, Wea. -/
import Derived.Test.YtbmlpokkojhhjaaGreatG31
import Derived.Test.YtbmlpokkojhhjaaGreatG15
/- Plain: what the program's ReadReply reads, as a function; where there is no fault it is the document's. -/
namespace Go.Proofs.YtbmlpokkojhhjaaGreat.Wz
open Go.RowKit
set_option linter.unusedVariables false
set_option linter.unusedSimpArgs false

section
variable {α : Type} {f : List Int → Int → α × List Int × Int}
/-- So many of a list, whatever faults come. -/
def rK (f : List Int → Int → α × List Int × Int) (b : List Int) (e : Int) : Nat → List α × List Int × Int
  | 0 => ([], b, e)
  | k + 1 => ((rK f b e k).1 ++ [(f (rK f b e k).2.1 (rK f b e k).2.2).1], (f (rK f b e k).2.1 (rK f b e k).2.2).2)
theorem rK_cons (f : List Int → Int → α × List Int × Int) (b : List Int) (e : Int) : ∀ k, rK f b e (k + 1) = ((f b e).1 :: (rK f (f b e).2.1 (f b e).2.2 k).1, (rK f (f b e).2.1 (f b e).2.2 k).2)
  | 0 => rfl
  | k + 1 => by
    have ih := rK_cons f b e k
    have e1 : rK f b e (k + 2) = ((rK f b e (k + 1)).1 ++ [(f (rK f b e (k + 1)).2.1 (rK f b e (k + 1)).2.2).1], (f (rK f b e (k + 1)).2.1 (rK f b e (k + 1)).2.2).2) := rfl
    rw [e1, ih]
    rfl
theorem rK_len (f : List Int → Int → α × List Int × Int) (b : List Int) (e : Int) : ∀ k, (rK f b e k).1.length = k
  | 0 => rfl
  | k + 1 => by
    show ((rK f b e k).1 ++ [_]).length = k + 1
    rw [List.length_append, rK_len f b e k]
    rfl
theorem rK_start (hs : ∀ b e, (f b e).2.2 = 0 → e = 0) : ∀ k b e, (rK f b e k).2.2 = 0 → e = 0
  | 0, b, e, h => h
  | k + 1, b, e, h => rK_start hs k b e (hs _ _ h)
theorem rK_eq (hs : ∀ b e, (f b e).2.2 = 0 → e = 0) : ∀ n b e, (rK f b e n).2.2 = 0 ∨ (Wt.rL f n b e).2.2 = 0 → Wt.rL f n b e = rK f b e n
  | 0, b, e, h => rfl
  | n + 1, b, e, h => by
    have e0 : e = 0 := by
      rcases h with h | h
      · exact rK_start hs _ _ _ h
      · refine Classical.byContradiction fun c => ?_
        rw [Wt.rL_stuck c] at h
        exact c h
    subst e0
    have e1 : Wt.rL f (n + 1) b 0 = ((f b 0).1 :: (Wt.rL f n (f b 0).2.1 (f b 0).2.2).1, (Wt.rL f n (f b 0).2.1 (f b 0).2.2).2) := by
      conv => lhs; unfold Wt.rL
      rw [if_neg (by simp)]
    rw [e1, rK_cons] at h ⊢
    rw [rK_eq hs n _ _ h]
def nK (f : List Int → Int → α × List Int × Int) (b : List Int) (e : Int) : List α × List Int × Int := rK f (sR b e 4000).2.1 (sR b e 4000).2.2 (sR b e 4000).1.toNat
theorem nK_start (hs : ∀ b e, (f b e).2.2 = 0 → e = 0) {b : List Int} {e : Int} (h : (nK f b e).2.2 = 0) : e = 0 := sR_start (rK_start hs _ _ _ h)
theorem nK_eq (hs : ∀ b e, (f b e).2.2 = 0 → e = 0) {b : List Int} {e : Int} (h : (nK f b e).2.2 = 0 ∨ (Wt.nL f b e).2.2 = 0) : Wt.nL f b e = nK f b e := rK_eq hs _ _ _ h
theorem rK_by (hf : ∀ b e, By b → By (f b e).2.1 ∧ (f b e).2.1.length ≤ b.length) {b : List Int} (hy : By b) (e : Int) : ∀ k, By (rK f b e k).2.1 ∧ (rK f b e k).2.1.length ≤ b.length
  | 0 => ⟨hy, Nat.le_refl _⟩
  | k + 1 => by
    have ih := rK_by hf hy e k
    have h := hf _ (rK f b e k).2.2 ih.1
    exact ⟨h.1, Nat.le_trans h.2 ih.2⟩
theorem nK_by (hf : ∀ b e, By b → By (f b e).2.1 ∧ (f b e).2.1.length ≤ b.length) {b : List Int} (hy : By b) (e : Int) : By (nK f b e).2.1 ∧ (nK f b e).2.1.length ≤ b.length := by
  have h := sR_by hy e 4000
  have k := rK_by hf h.1 (sR b e 4000).2.2 (sR b e 4000).1.toNat
  exact ⟨k.1, Nat.le_trans k.2 h.2⟩
end
theorem tR_start : ∀ b e, (Wt.tR b e).2.2 = 0 → e = 0 := fun b e h => iR_start (iR_start (sR_start (sR_start h)))
theorem gR_start : ∀ b e, (Wt.gR b e).2.2 = 0 → e = 0 := fun b e h => sR_start h
theorem aR_start : ∀ b e, (Wt.aR b e).2.2 = 0 → e = 0 := fun b e h => sR_start h
theorem tR_by : ∀ b e, By b → By (Wt.tR b e).2.1 ∧ (Wt.tR b e).2.1.length ≤ b.length := fun b e hy => by
  have h1 := iR_by hy e
  have h2 := iR_by h1.1 (iR b e).2.2
  have h3 := sR_by h2.1 (iR (iR b e).2.1 (iR b e).2.2).2.2 top
  have h4 := sR_by h3.1 (sR (iR (iR b e).2.1 (iR b e).2.2).2.1 (iR (iR b e).2.1 (iR b e).2.2).2.2 top).2.2 4294967295
  exact ⟨h4.1, Nat.le_trans h4.2 (Nat.le_trans h3.2 (Nat.le_trans h2.2 h1.2))⟩
theorem gR_by : ∀ b e, By b → By (Wt.gR b e).2.1 ∧ (Wt.gR b e).2.1.length ≤ b.length := fun b e hy => sR_by hy e top
theorem aR_by : ∀ b e, By b → By (Wt.aR b e).2.1 ∧ (Wt.aR b e).2.1.length ≤ b.length := fun b e hy => sR_by hy e 4294967295
/-- A reply read by the program. -/
def qR (bs : List Int) : Rw × List Int × Int :=
  if (sR bs 0 999).1 = 0 then
    let u := sR (sR bs 0 999).2.1 (sR bs 0 999).2.2 top
    let f := iR u.2.1 u.2.2
    let l := iR f.2.1 f.2.2
    let t := nK Wt.tR l.2.1 l.2.2
    let g := nK Wt.gR t.2.1 t.2.2
    let a := nK Wt.aR g.2.1 g.2.2
    (⟨0, u.1, f.1, l.1, t.1, g.1, a.1⟩, a.2)
  else (⟨(sR bs 0 999).1, 0, 0, 0, [], [], []⟩, (sR bs 0 999).2)
theorem q_eq {bs : List Int} (h : (qR bs).2.2 = 0 ∨ (Wt.pR bs).2.2 = 0) : Wt.pR bs = qR bs := by
  unfold qR Wt.pR at h ⊢
  generalize sR bs 0 999 = s at *
  by_cases c1 : s.1 = 0
  · by_cases c2 : s.2.2 = 0
    · rw [if_pos c1, if_pos ⟨c1, c2⟩] at h ⊢
      dsimp only at h ⊢
      generalize sR s.2.1 s.2.2 top = u at *
      generalize iR u.2.1 u.2.2 = f at *
      generalize iR f.2.1 f.2.2 = l at *
      rcases h with h | h
      · have h5 := nK_start aR_start h
        have h4 := nK_start gR_start h5
        have e1 := nK_eq tR_start (.inl h4)
        rw [e1]
        have e2 := nK_eq gR_start (.inl h5)
        rw [e2]
        rw [nK_eq aR_start (.inl h)]
      · have h5 := Wt.nL_start h
        have h4 := Wt.nL_start h5
        have e1 := nK_eq tR_start (.inr h4)
        rw [e1] at h h5 ⊢
        have e2 := nK_eq gR_start (.inr h5)
        rw [e2] at h ⊢
        rw [nK_eq aR_start (.inr h)]
    · exfalso
      rw [if_pos c1, if_neg fun k => c2 k.2] at h
      dsimp only at h
      rcases h with h | h
      · exact c2 (sR_start (iR_start (iR_start (nK_start tR_start (nK_start gR_start (nK_start aR_start h))))))
      · exact c2 h
  · rw [if_neg c1, if_neg fun k => c1 k.1]
theorem q_yes {bs : List Int} (hy : By bs) (h : (if (qR bs).2.2 = 0 ∧ 0 < (qR bs).2.1.length then (5 : Int) else (qR bs).2.2) = 0) : IsR bs (qR bs).1 := by
  have e0 : (qR bs).2.2 = 0 := by
    by_cases c : (qR bs).2.2 = 0 ∧ 0 < (qR bs).2.1.length
    · exact c.1
    · rw [if_neg c] at h; exact h
  have b0 : (qR bs).2.1 = [] := by
    cases hb : (qR bs).2.1 with
    | nil => rfl
    | cons x l => rw [if_pos ⟨e0, by rw [hb]; simp⟩] at h; cases h
  have e := q_eq (.inl e0)
  rw [← e]
  exact Wt.pR_back hy (by rw [e]; exact Prod.ext b0 e0)
theorem q_no {bs : List Int} (h : (if (qR bs).2.2 = 0 ∧ 0 < (qR bs).2.1.length then (5 : Int) else (qR bs).2.2) ≠ 0) (d : Rw) : ¬ IsR bs d := by
  refine Wt.pR_none (fun c => h ?_) d
  have e := q_eq (bs := bs) (.inr (by rw [c]))
  rw [← e, c]
  simp
end Go.Proofs.YtbmlpokkojhhjaaGreat.Wz
/- The document's CopyReply (by genWdw.py). -/
namespace Go.Proofs.YtbmlpokkojhhjaaGreat
open Go.RowKit
set_option linter.unusedVariables false
set_option linter.unusedSimpArgs false

theorem info_n615 : ∃ z by', (Tryz.prog.info? 26).map (fun i => (i.zero, i.size, i.bytes)) = some (some z, 1, by') ∧ z.cells.size = 1 ∧ by' ≤ 4096 := ⟨.int .u64 0, 8, by kernel_rfl, rfl, by decide⟩
theorem n6_app15 {w : World} {ops : Array Oper} {rest : List Oper} {o : Oper} {a : Act} {Q : Exit → Act → World → Prop} (hgd : o.guard = none) (s x : Operand)
    (ho : o.op = .call { callee := .builtin .append, args := #[s, x], argTypes := #[37, 37] }) (base : Nat) (v : Value) (xs : List Int) (hs : a.eval s = v)
    (hown : E6w.Own 26 w base v xs) (A : Option Addr) (m c : Nat) (l : List Int) (hx : a.eval x = .slice A m c) (hr : E6w.Rd w A m l) (h0 : A = none → c = 0) (hlen : xs.length + m ≤ 100000) (hbase : base ≤ w.heap.size)
    (h : ∀ v' w', E6w.Own 26 w' base v' (xs ++ l) → w.grownBy w' v.ownBlock → wpList Tryz.prog ops Q rest (a.put o.dst v') w') : wpList Tryz.prog ops Q (o :: rest) a w := by
  obtain ⟨z, by', hi, hzs, hby⟩ := info_n615
  obtain ⟨i0, hi0, hz0, hz1, hz2⟩ := info_parts hi
  have el : (xs ++ l).length = xs.length + m := by rw [List.length_append, hr.1]
  cases A with
  | none =>
    have hm := hr.2.1 rfl
    have hc := h0 rfl
    subst hm hc
    have e : l = [] := List.eq_nil_of_length_eq_zero hr.1
    subst e
    refine wpList_append_own_none hgd s x 37 ho base 26 i0 1 Tryz.underlying37 hi0 v xs.length (E6w.flat xs) hs hown hx ?_
    exact h v w (by rw [List.append_nil]; exact hown) (World.grownBy.refl _ _)
  | some ad =>
    refine wpList_append_own_at w hgd s x 37 ho base 26 i0 z 1 by' Tryz.underlying37 hi0 hz0 hz1 hz2 hzs (by decide) v xs.length (E6w.flat xs) hs hown ad m c (E6w.flat l) hx ?_ (grd_news hr) (gflat_cells _) (by unfold maxLen; omega) ?_ hbase fun v' w' h2 h3 _ h5 => h v' w' (by unfold Elt.Own; rw [el, gflat_app]; exact h2) h3
    · rw [gflat_len, hr.1]; rfl
    · have := Nat.mul_le_mul hlen hby
      omega
theorem info_n315 : ∃ z by', (Tryz.prog.info? 25).map (fun i => (i.zero, i.size, i.bytes)) = some (some z, 1, by') ∧ z.cells.size = 1 ∧ by' ≤ 4096 := ⟨.int .u32 0, 4, by kernel_rfl, rfl, by decide⟩
theorem n3_app15 {w : World} {ops : Array Oper} {rest : List Oper} {o : Oper} {a : Act} {Q : Exit → Act → World → Prop} (hgd : o.guard = none) (s x : Operand)
    (ho : o.op = .call { callee := .builtin .append, args := #[s, x], argTypes := #[38, 38] }) (base : Nat) (v : Value) (xs : List Int) (hs : a.eval s = v)
    (hown : E3w.Own 25 w base v xs) (A : Option Addr) (m c : Nat) (l : List Int) (hx : a.eval x = .slice A m c) (hr : E3w.Rd w A m l) (h0 : A = none → c = 0) (hlen : xs.length + m ≤ 100000) (hbase : base ≤ w.heap.size)
    (h : ∀ v' w', E3w.Own 25 w' base v' (xs ++ l) → w.grownBy w' v.ownBlock → wpList Tryz.prog ops Q rest (a.put o.dst v') w') : wpList Tryz.prog ops Q (o :: rest) a w := by
  obtain ⟨z, by', hi, hzs, hby⟩ := info_n315
  obtain ⟨i0, hi0, hz0, hz1, hz2⟩ := info_parts hi
  have el : (xs ++ l).length = xs.length + m := by rw [List.length_append, hr.1]
  cases A with
  | none =>
    have hm := hr.2.1 rfl
    have hc := h0 rfl
    subst hm hc
    have e : l = [] := List.eq_nil_of_length_eq_zero hr.1
    subst e
    refine wpList_append_own_none hgd s x 38 ho base 25 i0 1 Tryz.underlying38 hi0 v xs.length (E3w.flat xs) hs hown hx ?_
    exact h v w (by rw [List.append_nil]; exact hown) (World.grownBy.refl _ _)
  | some ad =>
    refine wpList_append_own_at w hgd s x 38 ho base 25 i0 z 1 by' Tryz.underlying38 hi0 hz0 hz1 hz2 hzs (by decide) v xs.length (E3w.flat xs) hs hown ad m c (E3w.flat l) hx ?_ (grd_news hr) (gflat_cells _) (by unfold maxLen; omega) ?_ hbase fun v' w' h2 h3 _ h5 => h v' w' (by unfold Elt.Own; rw [el, gflat_app]; exact h2) h3
    · rw [gflat_len, hr.1]; rfl
    · have := Nat.mul_le_mul hlen hby
      omega
theorem gown_capn15 {α : Type} {E : Elt α} {te : TypeId} {W : World} {B n c : Nat} {A : Option Addr} {xs : List α} (h : E.Own te W B (.slice A n c) xs) : n ≤ c ∧ c ≤ maxLen := by
  rcases h.2 with ⟨e, _⟩ | ⟨b', c', cur, e, _, _, h1, h2, _⟩
  · cases e; exact ⟨Nat.le_refl _, Nat.zero_le _⟩
  · cases e; exact ⟨h1, h2⟩
theorem own_ne15 {g N : Nat} (h : g ≠ N) : ¬ (Value.slice (some ⟨N, 0, none⟩) 0 0).ownBlock = some g := fun e => h (Option.some.inj e).symm
theorem tbx_lt15 {α : Type} {E : Elt α} {te : TypeId} {w : World} {g : Nat} {x : α} (h : E.Bx te w g x) : g < w.heap.size := (Array.getElem?_eq_some_iff.1 h).1
theorem own_keep15 {α : Type} {E : Elt α} {te : TypeId} {V W : World} {B : Nat} {v : Value} {xs : List α} (h : E.Own te V B v xs) (hb : ∀ k, B ≤ k → k < V.heap.size → W.heap[k]? = V.heap[k]?) : E.Own te W B v xs :=
  gown_same h fun k hk => hb k (gown_lt h hk).1 (gown_lt h hk).2
theorem rv_set15 {w : World} {g i : Nat} {te : TypeId} {v v' : Rv} {u : Value} (h : ERv.Bx te w g v) (e : ERv.cells v' = (ERv.cells v).set i u) : ERv.Bx te (w.setCell ⟨g, i, none⟩ u) g v' := gbx_put h e



































































































































































end Go.Proofs.YtbmlpokkojhhjaaGreat
/- append of numbers at an operation (by genWea.py out of XSa's gwp_app). -/
namespace Go.Proofs.YtbmlpokkojhhjaaGreat
open Go.RowKit
set_option linter.unusedVariables false
set_option linter.unusedSimpArgs false

theorem n6_wp15 {w : World} {o : Oper} {a : Act} {K : Act → World → Prop} {Q : Exit → Act → World → Prop} (s x : Operand)
    (ho : o.op = .call { callee := .builtin .append, args := #[s, x], argTypes := #[37, 37] }) (base : Nat) (v : Value) (xs : List Int) (hs : a.eval s = v)
    (hown : E6w.Own 26 w base v xs) (A : Option Addr) (m c : Nat) (l : List Int) (hx : a.eval x = .slice A m c) (hr : E6w.Rd w A m l) (h0 : A = none → c = 0) (hlen : xs.length + m ≤ 100000) (hbase : base ≤ w.heap.size)
    (h : ∀ v' w', E6w.Own 26 w' base v' (xs ++ l) → w.grownBy w' v.ownBlock → (v'.ownBlock = v.ownBlock ∨ v'.ownBlock = some w.heap.size) → K (a.put o.dst v') w') : o.wp Tryz.prog a w K Q := by
  obtain ⟨z, by', hi, hzs, hby⟩ := info_n615
  obtain ⟨i0, hi0, hz0, hz1, hz2⟩ := info_parts hi
  have el : (xs ++ l).length = xs.length + m := by rw [List.length_append, hr.1]
  cases A with
  | none =>
    have hm := hr.2.1 rfl
    have hc := h0 rfl
    subst hm hc
    have e : l = [] := List.eq_nil_of_length_eq_zero hr.1
    subst e
    have hrun := run_append_owned_none (P := Tryz.prog) (w := w) base 37 o.type 26 i0 1 Tryz.underlying37 hi0 v xs.length (E6w.flat xs) hown
    unfold Oper.wp
    simp [execOp, ho, resolve, invoke, builtin, hs, hx, hrun, Result.andThen]
    exact h v w (by rw [List.append_nil]; exact hown) (World.grownBy.refl _ _) (.inl rfl)
  | some ad =>
    obtain ⟨v', w', hrun, h2, h3, h4, h5⟩ := run_append_own_at (P := Tryz.prog) w base 37 o.type 26 i0 z 1 by' Tryz.underlying37 hi0 hz0 hz1 hz2 hzs (by decide) v xs.length (E6w.flat xs) hown ad m c (E6w.flat l) (by rw [gflat_len, hr.1]; rfl) (grd_news hr) (gflat_cells _) (by unfold maxLen; omega) (by have := Nat.mul_le_mul hlen hby; omega) hbase
    unfold Oper.wp execOp
    simp only [ho, resolve, invoke, builtin, Sem.run_bind, Sem.run_pure, Result.andThen_ok, List.map_toArray, List.map_cons, List.map_nil, hs, hx, hrun]
    exact h v' w' (by unfold Elt.Own; rw [el, gflat_app]; exact h2) h3 h5
theorem n3_wp15 {w : World} {o : Oper} {a : Act} {K : Act → World → Prop} {Q : Exit → Act → World → Prop} (s x : Operand)
    (ho : o.op = .call { callee := .builtin .append, args := #[s, x], argTypes := #[38, 38] }) (base : Nat) (v : Value) (xs : List Int) (hs : a.eval s = v)
    (hown : E3w.Own 25 w base v xs) (A : Option Addr) (m c : Nat) (l : List Int) (hx : a.eval x = .slice A m c) (hr : E3w.Rd w A m l) (h0 : A = none → c = 0) (hlen : xs.length + m ≤ 100000) (hbase : base ≤ w.heap.size)
    (h : ∀ v' w', E3w.Own 25 w' base v' (xs ++ l) → w.grownBy w' v.ownBlock → (v'.ownBlock = v.ownBlock ∨ v'.ownBlock = some w.heap.size) → K (a.put o.dst v') w') : o.wp Tryz.prog a w K Q := by
  obtain ⟨z, by', hi, hzs, hby⟩ := info_n315
  obtain ⟨i0, hi0, hz0, hz1, hz2⟩ := info_parts hi
  have el : (xs ++ l).length = xs.length + m := by rw [List.length_append, hr.1]
  cases A with
  | none =>
    have hm := hr.2.1 rfl
    have hc := h0 rfl
    subst hm hc
    have e : l = [] := List.eq_nil_of_length_eq_zero hr.1
    subst e
    have hrun := run_append_owned_none (P := Tryz.prog) (w := w) base 38 o.type 25 i0 1 Tryz.underlying38 hi0 v xs.length (E3w.flat xs) hown
    unfold Oper.wp
    simp [execOp, ho, resolve, invoke, builtin, hs, hx, hrun, Result.andThen]
    exact h v w (by rw [List.append_nil]; exact hown) (World.grownBy.refl _ _) (.inl rfl)
  | some ad =>
    obtain ⟨v', w', hrun, h2, h3, h4, h5⟩ := run_append_own_at (P := Tryz.prog) w base 38 o.type 25 i0 z 1 by' Tryz.underlying38 hi0 hz0 hz1 hz2 hzs (by decide) v xs.length (E3w.flat xs) hown ad m c (E3w.flat l) (by rw [gflat_len, hr.1]; rfl) (grd_news hr) (gflat_cells _) (by unfold maxLen; omega) (by have := Nat.mul_le_mul hlen hby; omega) hbase
    unfold Oper.wp execOp
    simp only [ho, resolve, invoke, builtin, Sem.run_bind, Sem.run_pure, Result.andThen_ok, List.map_toArray, List.map_cons, List.map_nil, hs, hx, hrun]
    exact h v' w' (by unfold Elt.Own; rw [el, gflat_app]; exact h2) h3 h5
end Go.Proofs.YtbmlpokkojhhjaaGreat
