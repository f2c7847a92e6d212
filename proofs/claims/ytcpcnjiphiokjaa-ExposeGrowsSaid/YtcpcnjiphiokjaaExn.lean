/- PURE and memory: stakes copied, their orders in rows of their own; no walk. -/
import Derived.Test.YtcpcnjiphiokjaaExk
namespace Go.Proofs.Ytcpcnjiphiokjaa
open Go.RowKit
set_option linter.unusedVariables false
set_option linter.unusedSimpArgs false

/-- A stake but for the place of its orders. -/
def coreK (x : Sk) : Sk := { x with A := none, n := 0, c := 0 }
theorem core_stk (x : Sk) : stkB (coreK x) = stkB x := rfl
theorem core_all : ∀ l : List Sk, (l.map coreK).all stkB = l.all stkB
  | [] => rfl
  | x :: l => by rw [List.map_cons, List.all_cons, List.all_cons, core_all l]; rfl
theorem core_lg (l : List Sk) : lgK (l.map coreK) = lgK l := by simp [lgK, coreK, Function.comp_def]
theorem core_sum {f : Sk → Int} (hf : ∀ x, f (coreK x) = f x) : ∀ l : List Sk, sumK f (l.map coreK) = sumK f l
  | [] => rfl
  | x :: l => by show f (coreK x) + sumK f (l.map coreK) = f x + sumK f l; rw [hf, core_sum hf l]
theorem core_ne (l : List Sk) : neE (l.map coreK) = neE l ∧ neN (l.map coreK) = neN l := by
  have e : neE (l.map coreK) = neE l := by
    unfold neE
    rw [List.length_map, core_all, core_lg]
  refine ⟨e, ?_⟩
  unfold neN
  rw [e, core_lg, core_sum (f := wsK) (fun _ => rfl), core_sum (f := mkK) (fun _ => rfl)]
theorem core_same {l m : List Sk} (h : l.map coreK = m.map coreK) : neE l = neE m ∧ neN l = neN m := by
  rw [← (core_ne l).1, ← (core_ne l).2, h, (core_ne m).1, (core_ne m).2]
  exact ⟨rfl, rfl⟩
theorem core_at {l m : List Sk} (h : l.map coreK = m.map coreK) {k : Nat} {x y : Sk} (hx : l[k]? = some x) (hy : m[k]? = some y) : x.lg = y.lg ∧ x.ba = y.ba ∧ x.pr = y.pr ∧ x.os = y.os := by
  have e : (l.map coreK)[k]? = (m.map coreK)[k]? := by rw [h]
  rw [List.getElem?_map, List.getElem?_map, hx, hy] at e
  simp only [Option.map_some, Option.some.injEq, coreK, Sk.mk.injEq] at e
  exact ⟨e.1, e.2.1, e.2.2.1, e.2.2.2.2.2.2⟩
/-- Its orders lie in a row of their own. -/
def Yo (W : World) (B : Nat) (y : Sk) : Prop := EO.Own 41 W B (.slice y.A y.n y.c) y.os
section
variable {w W W' : World} {B : Nat} {L : Value} {ys : List Sk} {y : Sk}
theorem yo_in (h : Yo W B y) : y.In W := gown_rd h
theorem yo_below (h : Yo W B y) (q : Below W.heap.size W W') : Yo W' B y := gown_below h q
/-- Rows of stakes and rows of orders lie apart. -/
theorem yo_apart {v : Value} {os : List Or} {B' : Nat} (hL : EK.Own 33 W B L ys) (hv : EO.Own 41 W B' v os) {k : Nat} (hk : v.ownBlock = some k) : L.ownBlock ≠ some k := fun e => by
  obtain ⟨c1, h1⟩ := gown_cells hL e
  obtain ⟨c2, h2⟩ := gown_cells hv hk
  rw [h1] at h2
  injection h2 with h3
  injection h3 with _ h4 _
  revert h4
  decide
theorem yo_grown (hL : EK.Own 33 W B L ys) (h : Yo W B y) (g : W.grownBy W' L.ownBlock) : Yo W' B y :=
  gown_fr h (Fr.grown (S := fun k => L.ownBlock = some k) g fun k e => e) fun k hk e => yo_apart hL h hk e
end
/-- The copies so far. -/
structure Cy (w : World) (L : Value) (ys l : List Sk) (W : World) : Prop where
  own : EK.Own 33 W w.heap.size L ys
  yo : ∀ y, y ∈ ys → y.ok ∧ Yo W w.heap.size y
  core : ys.map coreK = l.map coreK
  bel : Below w.heap.size w W
section
variable {w W W' : World} {L : Value} {ys l : List Sk}
theorem Cy.below (h : Cy w L ys l W) (q : Below W.heap.size W W') : Cy w L ys l W' :=
  ⟨gown_below h.own q, fun y hy => ⟨(h.yo y hy).1, yo_below (h.yo y hy).2 q⟩, h.core, h.bel.trans (q.mono h.bel.size)⟩
theorem Cy.len (h : Cy w L ys l W) : ys.length = l.length := by
  have := congrArg List.length h.core
  simpa using this
theorem Cy.all (h : Cy w L ys l W) : ∀ y, y ∈ ys → y.ok ∧ y.In W := fun y hy => ⟨(h.yo y hy).1, yo_in (h.yo y hy).2⟩
/-- One more, behind an append. -/
theorem Cy.app {L' : Value} {x y : Sk} (h : Cy w L ys l W) (ho : EK.Own 33 W' w.heap.size L' (ys ++ [y])) (g : W.grownBy W' L.ownBlock) (hy : y.ok ∧ Yo W w.heap.size y) (hc : coreK y = coreK x) : Cy w L' (ys ++ [y]) (l ++ [x]) W' := by
  refine ⟨ho, fun z hz => ?_, by rw [List.map_append, List.map_append, h.core]; simp [hc], h.bel.grown g h.bel.size (fun k e => (gown_lt h.own e).1)⟩
  rcases List.mem_append.1 hz with hz | hz
  · exact ⟨(h.yo z hz).1, yo_grown h.own (h.yo z hz).2 g⟩
  · rw [List.mem_singleton.1 hz]
    exact ⟨hy.1, yo_grown h.own hy.2 g⟩
end
theorem sk_set (x : Sk) (A : Option Addr) (n c : Nat) (os : List Or) : EK.cells ⟨x.lg, x.ba, x.pr, A, n, c, os⟩ = (EK.cells x).set 28 (.slice A n c) := by
  have e : (EL.cells x.lg).length = 26 := EL.len x.lg
  show EL.cells x.lg ++ _ = (EL.cells x.lg ++ _).set 28 _
  rw [List.set_append_right _ _ (by rw [e]; omega), e]
  rfl
theorem own_le11 {W : World} {B n c : Nat} {A : Option Addr} {l : List Or} (h : EO.Own 41 W B (.slice A n c) l) : n = l.length ∧ n ≤ c ∧ (A = none → c = 0) := by
  obtain ⟨A1, c1, e, h0⟩ := gown_form h
  cases e
  refine ⟨rfl, ?_, h0⟩
  cases A with
  | none =>
    have := (gown_rd h).2.1 rfl
    omega
  | some a =>
    rcases h.2 with ⟨e, _⟩ | ⟨b, cc, cur, e, _⟩
    · cases e
    · cases e
      exact (gown_cap h).1
/-- A copy is made: the new row, the copy's block, and all as it was. -/
theorem Cy.step {w wr W3 w' : World} {L : Value} {ys lk : List Sk} {x : Sk} {gb ob m c5 : Nat} {A5 : Option Addr} (h : Cy w L ys lk wr) (b3 : Below wr.heap.size wr W3) (x3 : EK.Bx 33 W3 gb x) (hg : wr.heap.size ≤ gb) (ho : wr.heap.size ≤ ob) (hne : gb ≠ ob)
    (h1 : EO.Own 41 w' ob (.slice A5 m c5) x.os) (h2 : W3.grownBy w' (some ob)) (hlt : ob < W3.heap.size) (ok : x.ok) (hl : x.os.length ≤ 300) :
    w'.cell? ⟨gb, 28, none⟩ = some (.slice x.A x.n x.c) ∧ w'.frozen? ⟨gb, 28, none⟩ = false ∧ EK.Bx 33 (w'.setCell ⟨gb, 28, none⟩ (.slice A5 m c5)) gb ⟨x.lg, x.ba, x.pr, A5, m, c5, x.os⟩ ∧
      Cy w L ys lk ((w'.setCell ⟨gb, 28, none⟩ (.slice A5 m c5)).alloc (.cells (EK.cells ⟨x.lg, x.ba, x.pr, A5, m, c5, x.os⟩).toArray 33)) ∧ (Sk.mk x.lg x.ba x.pr A5 m c5 x.os).ok ∧
      Yo ((w'.setCell ⟨gb, 28, none⟩ (.slice A5 m c5)).alloc (.cells (EK.cells ⟨x.lg, x.ba, x.pr, A5, m, c5, x.os⟩).toArray 33)) w.heap.size ⟨x.lg, x.ba, x.pr, A5, m, c5, x.os⟩ := by
  have f := Fr.grown (S := fun k => some ob = some k) h2 fun k e => e
  have xw : EK.Bx 33 w' gb x := (f.at' gb (Array.getElem?_eq_some_iff.1 x3).1 (fun e => hne (by cases e; rfl))).trans x3
  have o1 := own_le11 h1
  have hwr := h.bel.size
  -- the order's row is not the copy's block
  have ap : ∀ k, (Value.slice A5 m c5).ownBlock = some k → k ≠ gb := fun k hk e => by
    obtain ⟨c2, hc⟩ := gown_cells h1 hk
    rw [e, xw] at hc
    injection hc with h3
    injection h3 with _ h4 _
    revert h4
    decide
  have g : Fr (fun k => k = gb) w' (w'.setCell ⟨gb, 28, none⟩ (.slice A5 m c5)) := Fr.set (S := fun k => k = gb) (p := ⟨gb, 28, none⟩) rfl _
  have b4 : Below wr.heap.size wr w' := b3.grown h2 b3.size (fun k e => by cases e; exact ho)
  have b5 : Below wr.heap.size wr (w'.setCell ⟨gb, 28, none⟩ (.slice A5 m c5)) := b4.setCell hg _
  have o5 := gown_fr h1 g ap
  have n6 := below_new (w'.setCell ⟨gb, 28, none⟩ (.slice A5 m c5)) (.cells (EK.cells ⟨x.lg, x.ba, x.pr, A5, m, c5, x.os⟩).toArray 33)
  refine ⟨bk_os xw, gbx_fz xw 28, gbx_put xw (sk_set x A5 m c5 x.os), h.below (b5.trans (n6.mono b5.size)), ⟨ok.lg, ok.ba, ok.pr, ok.os, by show m ≤ maxLen; unfold maxLen; omega, o1.2.2, o1.2.1⟩, ?_⟩
  exact gown_low (gown_below o5 n6) (by omega)
end Go.Proofs.Ytcpcnjiphiokjaa
