/- Texts of a proof, laid together: Bp, Bq, Id. -/
import Derived.Deep.LoopGhost
import Derived.Test.YtdcjgcjnfcahkaaG06
import Derived.Test.YtdcjgcjnfcahkaaG09
import Derived.Test.YtdcjgcjnfcahkaaG08
/- What an order that comes meets: how much; what has gone from the other side; trades in their order. -/
namespace Go.Proofs.Ytdcjgcjnfcahkaa
open Go.RowKit
set_option linter.unusedVariables false

theorem one_met {o x : Or} (h : metO o x = true) (ha : x.ac ≠ o.ac) : oneR (!o.bu) o.pr o.ac x = x.le := by
  unfold oneR condR
  rw [btr_not]
  have h' : (x.pr == o.pr || btr o.bu o.pr x.pr) = true := h
  have a : (x.ac != o.ac) = true := by simpa using ha
  rw [h', a]
  rfl
theorem one_own {o x : Or} (ha : x.ac = o.ac) : oneR (!o.bu) o.pr o.ac x = 0 := by
  unfold oneR condR
  have a : (x.ac != o.ac) = false := by simpa using ha
  rw [a]
  rfl
theorem one_far {o x : Or} (h : metO o x = false) : oneR (!o.bu) o.pr o.ac x = 0 := by
  unfold oneR condR
  rw [btr_not]
  have h' : (x.pr == o.pr || btr o.bu o.pr x.pr) = false := h
  rw [h', Bool.and_false]
  rfl
theorem sumR_cons' (buy : Bool) (x : Or) (r : List Or) (p nt : Int) : sumR buy (x :: r) p nt = oneR buy p nt x + sumR buy r p nt := by simp [sumR]
theorem sumR_far {o : Or} : ∀ {l : List Or}, (∀ x, x ∈ l → metO o x = false) → sumR (!o.bu) l o.pr o.ac = 0
  | [], _ => rfl
  | x :: r, h => by
    rw [sumR_cons', one_far (h x (List.mem_cons_self ..)), sumR_far fun y hy => h y (List.mem_cons_of_mem _ hy)]
    rfl
theorem sumR_ge {buy : Bool} {l : List Or} (p nt : Int) (h : InvO buy l) : 0 ≤ sumR buy l p nt :=
  (sumR_le buy p nt l fun x hx => by have := may_le (h.may x hx).1; omega).1
/-- It trades what it has, or what others offer, whichever is less. -/
theorem meet_reach (o : Or) (os : List Or) (left : Int) (h : InvO (!o.bu) os) (hl : 0 ≤ left) :
    (left ≤ sumR (!o.bu) os o.pr o.ac → (meetO o os left).fi = left) ∧ (sumR (!o.bu) os o.pr o.ac ≤ left → (meetO o os left).fi = sumR (!o.bu) os o.pr o.ac) := by
  refine meet_cases o (fun os left m => InvO (!o.bu) os → 0 ≤ left → (left ≤ sumR (!o.bu) os o.pr o.ac → m.fi = left) ∧ (sumR (!o.bu) os o.pr o.ac ≤ left → m.fi = sumR (!o.bu) os o.pr o.ac)) ?_ ?_ ?_ ?_ os left h hl
  · intro os left hc h hl
    have ge := sumR_ge o.pr o.ac h
    show (left ≤ _ → (0 : Int) = left) ∧ (_ ≤ left → (0 : Int) = _)
    rcases hc with rfl | c | ⟨x, r, rfl, hx⟩
    · have e : sumR (!o.bu) [] o.pr o.ac = 0 := rfl
      rw [e] at ge ⊢
      exact ⟨fun _ => by omega, fun _ => rfl⟩
    · exact ⟨fun _ => by omega, fun _ => by omega⟩
    · have e := sumR_far (o := o) (met_none h.srt hx)
      rw [e] at ge ⊢
      exact ⟨fun _ => by omega, fun _ => rfl⟩
  · intro x r left h0 hm ha ih h hl
    rw [sumR_cons', one_own ha, Int.zero_add]
    exact ih h.tail hl
  · intro x r left h0 hm ha hx ih h hl
    rw [sumR_cons', one_met hm ha]
    obtain ⟨i1, i2⟩ := ih h.tail (by omega)
    refine ⟨fun c => ?_, fun c => ?_⟩
    · show x.le + _ = left
      rw [i1 (by omega)]; omega
    · show x.le + _ = x.le + _
      rw [i2 (by omega)]
  · intro x r left h0 hm ha hx h hl
    rw [sumR_cons', one_met hm ha]
    have ge := sumR_ge o.pr o.ac h.tail
    exact ⟨fun _ => rfl, fun c => by omega⟩
/-- Nothing traded: no trades. -/
theorem meet_no {buy : Bool} (o : Or) (os : List Or) (left : Int) (h : InvO buy os) (e : (meetO o os left).fi = 0) : (meetO o os left).td = [] := by
  have s := meet_traded o os left
  have pos := meet_trades o os left h
  rw [e] at s
  generalize (meetO o os left).td = l at s pos ⊢
  cases l with
  | nil => rfl
  | cons t l =>
    exfalso
    have ge : ∀ m : List Td, (∀ u, u ∈ m → 0 < u.qt) → 0 ≤ sumT m := fun m => by
      induction m with
      | nil => intro _; exact Int.le_refl _
      | cons u m ih =>
        intro hm
        have := ih fun z hz => hm z (List.mem_cons_of_mem _ hz)
        have := hm u (List.mem_cons_self ..)
        show 0 ≤ u.qt + sumT m
        omega
    have q1 := (pos t (List.mem_cons_self ..)).1
    have q2 := ge l fun u hu => (pos u (List.mem_cons_of_mem _ hu)).1
    have q3 : t.qt + sumT l = 0 := s
    omega
theorem sumO_cons (x : Or) (r : List Or) : sumO (x :: r) = x.le + sumO r := rfl
/-- What has gone from the other side: what was traded, and one's own that went. -/
theorem meet_total (o : Or) (os : List Or) (left : Int) : ∃ X : List Or, (meetO o os left).gn = X.map (·.nu) ∧ X.Sublist os ∧ (∀ x, x ∈ X → x.ac = o.ac) ∧ sumO (meetO o os left).os + (meetO o os left).fi + sumO X = sumO os := by
  refine meet_cases o (fun os left m => ∃ X : List Or, m.gn = X.map (·.nu) ∧ X.Sublist os ∧ (∀ x, x ∈ X → x.ac = o.ac) ∧ sumO m.os + m.fi + sumO X = sumO os) ?_ ?_ ?_ ?_ os left
  · intro os left _
    refine ⟨[], rfl, List.nil_sublist _, (fun x h => by simp at h), ?_⟩
    show sumO os + 0 + 0 = sumO os
    omega
  · rintro x r left h0 hm ha ⟨X, q1, q2, q3, q4⟩
    refine ⟨x :: X, ?_, q2.cons_cons x, ?_, ?_⟩
    · show x.nu :: _ = x.nu :: _
      rw [q1]
    · intro y hy
      rcases List.mem_cons.1 hy with rfl | hy
      · exact ha
      · exact q3 y hy
    · rw [sumO_cons, sumO_cons]
      show sumO (meetO o r left).os + (meetO o r left).fi + _ = _
      omega
  · rintro x r left h0 hm ha hx ⟨X, q1, q2, q3, q4⟩
    refine ⟨X, q1, q2.cons x, q3, ?_⟩
    rw [sumO_cons]
    show sumO (meetO o r (left - x.le)).os + (x.le + (meetO o r (left - x.le)).fi) + _ = _
    omega
  · intro x r left h0 hm ha hx
    refine ⟨[], rfl, List.nil_sublist _, (fun x h => by simp at h), ?_⟩
    show (x.le - left) + sumO r + left + 0 = x.le + sumO r
    omega
/-- Trades: none at a better price than one ahead of it. -/
theorem meet_order {buy : Bool} (o : Or) (os : List Or) (left : Int) (h : InvO buy os) : (meetO o os left).td.Pairwise fun t u => btr buy u.pr t.pr = false := by
  refine meet_cases o (fun os left m => InvO buy os → m.td.Pairwise fun t u => btr buy u.pr t.pr = false) ?_ ?_ ?_ ?_ os left h
  · intro os left _ _; exact List.Pairwise.nil
  · intro x r left _ _ _ ih h; exact ih h.tail
  · intro x r left h0 hm ha hx ih h
    refine List.pairwise_cons.2 ⟨fun t ht => ?_, ih h.tail⟩
    obtain ⟨_, y, hy, _, _, e, _⟩ := meet_trades o r _ h.tail t ht
    have := (List.pairwise_cons.1 h.srt).1 y hy
    rw [← e]
    exact this
  · intro x r left _ _ _ _ _; exact List.pairwise_singleton _ _
end Go.Proofs.Ytdcjgcjnfcahkaa
/- All orders of an account go, one after another: what is left. -/
namespace Go.Proofs.Ytdcjgcjnfcahkaa
open Go.RowKit
set_option linter.unusedVariables false

def massF (a : Int) (S : Sd) : List Or → Sd
  | [] => S
  | x :: r => massF a (if ofAc a x then S.up x.bu (dropO (S x.bu) x.nu) else S) r
theorem massF_app (a : Int) : ∀ (l m : List Or) (S : Sd), massF a S (l ++ m) = massF a (massF a S l) m
  | [], _, _ => rfl
  | x :: r, m, S => massF_app a r m _
theorem massF_snoc (a : Int) (S : Sd) (l : List Or) {k : Nat} {x : Or} (hx : l[k]? = some x) : massF a S (l.take (k + 1)) = if ofAc a x then (massF a S (l.take k)).up x.bu (dropO (massF a S (l.take k) x.bu) x.nu) else massF a S (l.take k) := by
  rw [List.take_add_one, hx, Option.toList_some, massF_app]
  rfl
theorem Sd.up_up (S : Sd) (b : Bool) (os l : List Or) : (S.up b os).up b l = S.up b l := by
  funext c
  by_cases e : c = b
  · subst e; rw [Sd.up_at, Sd.up_at]
  · rw [Sd.up_ne _ _ e, Sd.up_ne _ _ e, Sd.up_ne _ _ e]
theorem massF_one (a : Int) (b : Bool) : ∀ (l : List Or) (T : Sd), (∀ x, x ∈ l → x.bu = b) → massF a T l = T.up b ((T b).filter fun y => !(l.any fun x => ofAc a x && x.nu == y.nu))
  | [], T, _ => by
    have e : ((T b).filter fun y => !(([] : List Or).any fun x => ofAc a x && x.nu == y.nu)) = T b := List.filter_eq_self.2 fun y _ => rfl
    rw [e, Sd.up_same]
    rfl
  | x :: r, T, h => by
    have hb := h x (List.mem_cons_self ..)
    have ih := massF_one a b r
    show massF a (if ofAc a x then T.up x.bu (dropO (T x.bu) x.nu) else T) r = _
    rw [ih _ fun y hy => h y (List.mem_cons_of_mem _ hy), hb]
    cases c : ofAc a x
    · rw [if_neg (by decide)]
      congr 1
      refine List.filter_congr fun y _ => ?_
      rw [List.any_cons, c]
      simp
    · rw [if_pos rfl, Sd.up_up, Sd.up_at]
      congr 1
      unfold dropO
      rw [List.filter_filter]
      refine List.filter_congr fun y _ => ?_
      rw [List.any_cons, c]
      cases d : (x.nu == y.nu)
      · have d' : (y.nu != x.nu) = true := by
          have := beq_eq_false_iff_ne.1 d
          simpa using fun e => this e.symm
        rw [d']; simp
      · have d' : (y.nu != x.nu) = false := by
          have := beq_iff_eq.1 d
          simpa using this.symm
        rw [d']; simp
theorem mass_side (a : Int) {os : List Or} (d : Dis os) : (os.filter fun y => !(os.any fun x => ofAc a x && x.nu == y.nu)) = os.filter fun x => !ofAc a x := by
  refine List.filter_congr fun y hy => ?_
  congr 1
  cases c : ofAc a y
  · rw [List.any_eq_false]
    intro x hx e
    have e' := Bool.and_eq_true_iff.1 e
    have := dis_uniq d hx hy (beq_iff_eq.1 e'.2)
    subst this
    rw [e'.1] at c
    cases c
  · rw [List.any_eq_true]
    exact ⟨y, hy, by rw [c]; simp⟩
/-- All of them: those of the account have gone, the others stand as they stood. -/
theorem massF_all (a : Int) {S : Sd} (h : ∀ b, InvO b (S b)) : massF a S S.all = massS S a := by
  unfold Sd.all
  rw [massF_app, massF_one a true (S true) S fun x hx => ((h true).may x hx).2, massF_one a false (S false) _ fun x hx => ((h false).may x hx).2]
  funext b
  cases b
  · rw [Sd.up_at, Sd.up_ne S _ (by decide)]
    exact mass_side a (h false).dis
  · rw [Sd.up_ne _ _ (by decide), Sd.up_at]
    exact mass_side a (h true).dis
end Go.Proofs.Ytdcjgcjnfcahkaa
/- The program's book: what an order that comes meets. -/
namespace Go.Proofs.Ytdcjgcjnfcahkaa
open Go.RowKit Go.Shelf
set_option linter.unusedVariables false
set_option linter.unusedSimpArgs false

/-- Within meet: the book, the order's box with what it has left, the result's block, what is told so far. -/
structure Mi (Pd : PdT) (w : World) (G : Nat) (g : Bool → Nat) (F0 : Bool → Nat → Prop) (S : Sd) (t : Nat) (o : Or) (left : Int) (os : List Or) (td : List Td) (gn : List Int) (p : Px) (F : Bool → Nat → Prop) (W : World) : Prop where
  bp : Bp Pd W G g F (S.up (!o.bu) os) t
  fr : Fr (fun k => ∃ b, F0 b k) w W
  fn : ∀ b k, F b k → F0 b k ∨ w.heap.size ≤ k
  xo : EO.Bx 31 W w.heap.size (o.wi left)
  xr : EPx.Bx 49 W (w.heap.size + 1) zeroPx
  xp : EPx.Bx 49 W (w.heap.size + 1 + 1) p
  pi : p.Is W w.heap.size td gn
  ap : ∀ b k, F b k → k ≠ w.heap.size ∧ k ≠ w.heap.size + 1 ∧ k ≠ w.heap.size + 1 + 1 ∧ ¬ p.own k
  gw : G < w.heap.size
/-- What turns in a step of its own. -/
def MiS (w : World) (p : Px) (k : Nat) : Prop := k = w.heap.size ∨ k = w.heap.size + 1 + 1 ∨ p.own k
section
variable {Pd : PdT} {zs : Array Value} {w W W' w1 w' : World} {G : Nat} {g : Bool → Nat} {F0 F : Bool → Nat → Prop} {S : Sd} {t : Nat} {o : Or} {left n : Int} {os os' : List Or} {td : List Td} {gn : List Int} {p : Px}
theorem Mi.gl (h : Mi Pd w G g F0 S t o left os td gn p F W) : w.heap.size + 1 + 1 < W.heap.size := (Array.getElem?_eq_some_iff.1 h.xp).1
theorem Mi.below (K : SideK Pd zs) (h : Mi Pd w G g F0 S t o left os td gn p F W) (q : Below W.heap.size W W') : Mi Pd w G g F0 S t o left os td gn p F W' :=
  ⟨h.bp.below K q, h.fr.same (Fr.below q), h.fn, gbx_below h.xo q, gbx_below h.xr q, gbx_below h.xp q, h.pi.below q, h.ap, h.gw⟩
theorem Mi.nb (h : Mi Pd w G g F0 S t o left os td gn p F W) : ¬ p.own w.heap.size ∧ ¬ p.own (w.heap.size + 1) ∧ ¬ p.own (w.heap.size + 1 + 1) :=
  ⟨h.pi.ne h.xo (by decide) (by decide), h.pi.ne h.xr (by decide) (by decide), h.pi.ne h.xp (by decide) (by decide)⟩
theorem Mi.keep {Q : Nat → Prop} (K : SideK Pd zs) (h : Mi Pd w G g F0 S t o left os td gn p F W) (f : Fr Q W W') (hQ : ∀ k, Q k → MiS w p k) : Bp Pd W' G g F (S.up (!o.bu) os) t ∧ Fr (fun k => ∃ b, F0 b k) w W' ∧ EPx.Bx 49 W' (w.heap.size + 1) zeroPx := by
  have hg := h.gl
  refine ⟨h.bp.keep K f (fun k hk c => ?_), h.fr.trans f (fun _ h => h) (fun k hk c => ?_), (f.at' _ (by omega) (fun c => ?_)).trans h.xr⟩
  · rcases hk with rfl | ⟨b, hk⟩
    · have hw := h.gw
      rcases hQ _ c with c | c | c
      · omega
      · omega
      · have := (h.pi.lt c).1; omega
    · obtain ⟨a1, a2, a3, a4⟩ := h.ap b k hk
      rcases hQ _ c with c | c | c
      · exact a1 c
      · exact a3 c
      · exact a4 c
  · exfalso
    rcases hQ _ c with c | c | c
    · omega
    · omega
    · have := (h.pi.lt c).1; omega
  · rcases hQ _ c with c | c | c
    · omega
    · omega
    · exact h.nb.2.1 c
/-- A call on the other side. -/
theorem Mi.side (K : SideK Pd zs) (h : Mi Pd w G g F0 S t o left os td gn p F W) (q : AftO Pd W (F (!o.bu)) (g (!o.bu)) (!o.bu) os' t W') : ∃ F', Mi Pd w G g F0 S t o left os' td gn p F' W' := by
  obtain ⟨F', k1, k2, k3⟩ := h.bp.turn K (Nat.le_refl _) q
  rw [Sd.up_up] at k1
  have hg := h.gl
  have no : ∀ k, (∃ b, F b k) → k ≠ w.heap.size ∧ k ≠ w.heap.size + 1 ∧ k ≠ w.heap.size + 1 + 1 ∧ ¬ p.own k := fun k ⟨b, hk⟩ => h.ap b k hk
  refine ⟨F', k1, h.fr.trans k2 (fun _ h => h) (fun k hk ⟨b, c⟩ => ?_), fun b k hk => ?_, (k2.at' _ (by omega) (fun c => (no _ c).1 rfl)).trans h.xo, (k2.at' _ (by omega) (fun c => (no _ c).2.1 rfl)).trans h.xr, (k2.at' _ (by omega) (fun c => (no _ c).2.2.1 rfl)).trans h.xp, h.pi.fr k2 (fun k hk c => (no _ c).2.2.2 hk), fun b k hk => ?_, h.gw⟩
  · rcases h.fn b k c with c | c
    · exact ⟨b, c⟩
    · omega
  · rcases k3 b k hk with c | c
    · exact h.fn b k c
    · exact .inr (Nat.le_trans h.fr.size c)
  · rcases k3 b k hk with c | c
    · exact h.ap b k c
    · exact ⟨by omega, by omega, by omega, fun e => by have := (h.pi.lt e).2; omega⟩
/-- What the order has left is written. -/
theorem Mi.order (K : SideK Pd zs) (h : Mi Pd w G g F0 S t o left os td gn p F W) (n : Int) : Mi Pd w G g F0 S t o n os td gn p F (W.setCell ⟨w.heap.size, 4, none⟩ (.int .i64 n)) := by
  have f : Fr (fun k => k = w.heap.size) W (W.setCell ⟨w.heap.size, 4, none⟩ (.int .i64 n)) := Fr.set (S := fun k => k = w.heap.size) (p := ⟨w.heap.size, 4, none⟩) rfl _
  obtain ⟨k1, k2, k3⟩ := h.keep K f (fun k e => .inl e)
  have hg := h.gl
  exact ⟨k1, k2, h.fn, gbx_put h.xo rfl, k3, (f.at' _ (by omega) (by omega)).trans h.xp, h.pi.fr f (fun k hk e => h.nb.1 (e ▸ hk)), h.ap, h.gw⟩
/-- How much was traded is written. -/
theorem Mi.filled (K : SideK Pd zs) (h : Mi Pd w G g F0 S t o left os td gn p F W) (n : Int) : Mi Pd w G g F0 S t o left os td gn { p with fi := n } F (W.setCell ⟨w.heap.size + 1 + 1, 2, none⟩ (.int .i64 n)) := by
  have f : Fr (fun k => k = w.heap.size + 1 + 1) W (W.setCell ⟨w.heap.size + 1 + 1, 2, none⟩ (.int .i64 n)) := Fr.set (S := fun k => k = w.heap.size + 1 + 1) (p := ⟨w.heap.size + 1 + 1, 2, none⟩) rfl _
  obtain ⟨k1, k2, k3⟩ := h.keep K f (fun k e => .inr (.inl e))
  have hg := h.gl
  have pf := h.pi.fr f (fun k hk e => h.nb.2.2 (e ▸ hk))
  exact ⟨k1, k2, h.fn, (f.at' _ (by omega) (by omega)).trans h.xo, k3, gbx_put h.xp rfl, ⟨pf.to, pf.no⟩, h.ap, h.gw⟩
/-- One of its own went: its number is told. -/
theorem Mi.gone (K : SideK Pd zs) (h : Mi Pd w G g F0 S t o left os td gn p F W) (q : Below W.heap.size W w1) {A : Option Addr} {m c : Nat} {x : Int} (o' : ENu.Own 28 w' w.heap.size (.slice A m c) (gn ++ [x])) (gr : w1.grownBy w' p.nv.ownBlock) (hv : (Value.slice A m c).ownBlock = p.nv.ownBlock ∨ (Value.slice A m c).ownBlock = some w1.heap.size) :
    Mi Pd w G g F0 S t o left os td (gn ++ [x]) { p with na := A, nn := m, nc := c } F (w'.setCell ⟨w.heap.size + 1 + 1, 1, none⟩ (.slice A m c)) := by
  have h1 := h.below K q
  have hg := h1.gl
  have f1 : Fr (fun k => p.nv.ownBlock = some k) w1 w' := Fr.grown gr (fun k e => e)
  have xp' : EPx.Bx 49 w' (w.heap.size + 1 + 1) p := (f1.at' _ (by omega) (fun e => h1.nb.2.2 (.inr e))).trans h1.xp
  have f : Fr (MiS w p) w1 (w'.setCell ⟨w.heap.size + 1 + 1, 1, none⟩ (.slice A m c)) := (f1.mono fun k e => .inr (.inr (.inr e))).same (Fr.set (p := ⟨w.heap.size + 1 + 1, 1, none⟩) (.inr (.inl rfl)) _)
  obtain ⟨k1, k2, k3⟩ := h1.keep K f (fun k e => e)
  have tv : ET.Own 63 (w'.setCell ⟨w.heap.size + 1 + 1, 1, none⟩ (.slice A m c)) w.heap.size p.tv td :=
    gown_same (gown_fr h1.pi.to f1 (fun k e1 e2 => h1.pi.two e1 e2)) fun k hk => heap_setCell_other w' ⟨w.heap.size + 1 + 1, 1, none⟩ k _ (fun e => h1.nb.2.2 (.inl (by rw [hk]; exact congrArg some e)))
  have ne : ∀ k, (Value.slice A m c).ownBlock = some k → k ≠ w.heap.size ∧ k ≠ w.heap.size + 1 ∧ k ≠ w.heap.size + 1 + 1 := fun k hk => by
    rcases hv with e | e
    · rw [e] at hk
      exact ⟨fun e => h1.nb.1 (.inr (e ▸ hk)), fun e => h1.nb.2.1 (.inr (e ▸ hk)), fun e => h1.nb.2.2 (.inr (e ▸ hk))⟩
    · rw [e] at hk; cases hk
      exact ⟨by omega, by omega, by omega⟩
  refine ⟨k1, k2, h.fn, ?_, k3, gbx_put xp' rfl, ⟨tv, gown_same o' fun k hk => heap_setCell_other w' ⟨w.heap.size + 1 + 1, 1, none⟩ k _ (ne k hk).2.2⟩, fun b k hk => ?_, h.gw⟩
  · refine (heap_setCell_other w' ⟨w.heap.size + 1 + 1, 1, none⟩ w.heap.size _ (by show w.heap.size ≠ w.heap.size + 1 + 1; omega)).trans ((f1.at' _ (by omega) (fun e => h1.nb.1 (.inr e))).trans h1.xo)
  · obtain ⟨a1, a2, a3, a4⟩ := h1.ap b k hk
    refine ⟨a1, a2, a3, fun e => ?_⟩
    rcases e with e | e
    · exact a4 (.inl e)
    · rcases hv with d | d
      · exact a4 (.inr (by rw [← d]; exact e))
      · have e' := e
        rw [show Px.nv { p with na := A, nn := m, nc := c : Px } = Value.slice A m c from rfl, d] at e'
        cases e'
        have := h1.bp.lt K (.inr ⟨b, hk⟩); omega
/-- A trade is told. -/
theorem Mi.traded (K : SideK Pd zs) (h : Mi Pd w G g F0 S t o left os td gn p F W) (q : Below W.heap.size W w1) {A : Option Addr} {m c : Nat} {x : Td} (o' : ET.Own 63 w' w.heap.size (.slice A m c) (td ++ [x])) (gr : w1.grownBy w' p.tv.ownBlock) (hv : (Value.slice A m c).ownBlock = p.tv.ownBlock ∨ (Value.slice A m c).ownBlock = some w1.heap.size) :
    Mi Pd w G g F0 S t o left os (td ++ [x]) gn { p with ta := A, tn := m, tc := c } F (w'.setCell ⟨w.heap.size + 1 + 1, 0, none⟩ (.slice A m c)) := by
  have h1 := h.below K q
  have hg := h1.gl
  have f1 : Fr (fun k => p.tv.ownBlock = some k) w1 w' := Fr.grown gr (fun k e => e)
  have xp' : EPx.Bx 49 w' (w.heap.size + 1 + 1) p := (f1.at' _ (by omega) (fun e => h1.nb.2.2 (.inl e))).trans h1.xp
  have f : Fr (MiS w p) w1 (w'.setCell ⟨w.heap.size + 1 + 1, 0, none⟩ (.slice A m c)) := (f1.mono fun k e => .inr (.inr (.inl e))).same (Fr.set (p := ⟨w.heap.size + 1 + 1, 0, none⟩) (.inr (.inl rfl)) _)
  obtain ⟨k1, k2, k3⟩ := h1.keep K f (fun k e => e)
  have nv : ENu.Own 28 (w'.setCell ⟨w.heap.size + 1 + 1, 0, none⟩ (.slice A m c)) w.heap.size p.nv gn :=
    gown_same (gown_fr h1.pi.no f1 (fun k e1 e2 => h1.pi.two e2 e1)) fun k hk => heap_setCell_other w' ⟨w.heap.size + 1 + 1, 0, none⟩ k _ (fun e => h1.nb.2.2 (.inr (by rw [hk]; exact congrArg some e)))
  have ne : ∀ k, (Value.slice A m c).ownBlock = some k → k ≠ w.heap.size ∧ k ≠ w.heap.size + 1 ∧ k ≠ w.heap.size + 1 + 1 := fun k hk => by
    rcases hv with e | e
    · rw [e] at hk
      exact ⟨fun e => h1.nb.1 (.inl (e ▸ hk)), fun e => h1.nb.2.1 (.inl (e ▸ hk)), fun e => h1.nb.2.2 (.inl (e ▸ hk))⟩
    · rw [e] at hk; cases hk
      exact ⟨by omega, by omega, by omega⟩
  refine ⟨k1, k2, h.fn, ?_, k3, gbx_put xp' rfl, ⟨gown_same o' fun k hk => heap_setCell_other w' ⟨w.heap.size + 1 + 1, 0, none⟩ k _ (ne k hk).2.2, nv⟩, fun b k hk => ?_, h.gw⟩
  · refine (heap_setCell_other w' ⟨w.heap.size + 1 + 1, 0, none⟩ w.heap.size _ (by show w.heap.size ≠ w.heap.size + 1 + 1; omega)).trans ((f1.at' _ (by omega) (fun e => h1.nb.1 (.inl e))).trans h1.xo)
  · obtain ⟨a1, a2, a3, a4⟩ := h1.ap b k hk
    refine ⟨a1, a2, a3, fun e => ?_⟩
    rcases e with e | e
    · rcases hv with d | d
      · exact a4 (.inl (by rw [← d]; exact e))
      · have e' := e
        rw [show Px.tv { p with ta := A, tn := m, tc := c : Px } = Value.slice A m c from rfl, d] at e'
        cases e'
        have := h1.bp.lt K (.inr ⟨b, hk⟩); omega
    · exact a4 (.inr e)
theorem three_pbx (w : World) (o : Or) : ∃ W3, ((w.alloc (.cells (EO.cells o).toArray 31)).alloc (.cells (EPx.cells zeroPx).toArray 49)).alloc (.cells (EPx.cells zeroPx).toArray 49) = W3 ∧ Below w.heap.size w W3 ∧ EO.Bx 31 W3 w.heap.size o ∧ EPx.Bx 49 W3 (w.heap.size + 1) zeroPx ∧ EPx.Bx 49 W3 (w.heap.size + 1 + 1) zeroPx := by
  generalize h1 : w.alloc (.cells (EO.cells o).toArray 31) = W1
  have e1 : EO.Bx 31 W1 w.heap.size o := h1 ▸ heap_alloc_new w _
  have s1 : W1.heap.size = w.heap.size + 1 := by rw [← h1]; simp
  have q1 : Below w.heap.size w W1 := h1 ▸ below_new w _
  generalize h2 : W1.alloc (.cells (EPx.cells zeroPx).toArray 49) = W2
  have e2 : EPx.Bx 49 W2 W1.heap.size zeroPx := h2 ▸ heap_alloc_new W1 _
  have s2 : W2.heap.size = W1.heap.size + 1 := by rw [← h2]; simp
  have q2 : Below W1.heap.size W1 W2 := h2 ▸ below_new W1 _
  generalize h3 : W2.alloc (.cells (EPx.cells zeroPx).toArray 49) = W3
  have e3 : EPx.Bx 49 W3 W2.heap.size zeroPx := h3 ▸ heap_alloc_new W2 _
  have q3 : Below W2.heap.size W2 W3 := h3 ▸ below_new W2 _
  rw [s1] at e2
  rw [s2, s1] at e3
  exact ⟨W3, rfl, (q1.trans (q2.mono (by omega))).trans (q3.mono (by omega)), gbx_below (gbx_below e1 q2) q3, gbx_below e2 q3, e3⟩
end
end Go.Proofs.Ytdcjgcjnfcahkaa
