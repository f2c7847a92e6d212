/- Memory: two lists that grow, apart; what Split tells of what is left. -/
import Derived.Test.YtlbekdpmfjhjhaaHSts
namespace Go.Proofs.Ytlbekdpmfjhjhaa
open Go.RowKit Go.Sort
set_option linter.unusedVariables false
set_option linter.unusedSimpArgs false

structure A3 (w2 V : World) (vo vw : Value) (xs : List Sd) (ys : List Int) (ga : Nat) (x : Sd) : Prop where
  oo : ESd.Own 34 V w2.heap.size vo xs
  ow : EI13.Own 2 V w2.heap.size vw ys
  bx : ESd.Bx 34 V ga x
  bel : Below w2.heap.size w2 V
section
variable {w2 V W : World} {vo vw v' : Value} {xs : List Sd} {ys ys' : List Int} {ga : Nat} {x : Sd}
theorem A3.alloc (h : A3 w2 V vo vw xs ys ga x) (o : Obj) : A3 w2 (V.alloc o) vo vw xs ys ga x :=
  ⟨gown_below h.oo (below_new V o), gown_below h.ow (below_new V o), gbx_below h.bx (below_new V o), h.bel.alloc h.bel.size o⟩
theorem A3.appW (h : A3 w2 V vo vw xs ys ga x) (g : V.grownBy W vw.ownBlock) (o : EI13.Own 2 W w2.heap.size v' ys') (ne : ∀ j, vw.ownBlock = some j → j ≠ ga) : A3 w2 W vo v' xs ys' ga x :=
  ⟨gown_same h.oo fun j hj => g.block j (gown_lt h.oo hj).2 (fun e => own_apart13 h.oo h.ow hj e.symm), o, (g.block ga (tbx_lt h.bx) (fun e => ne ga e.symm rfl)).trans h.bx, h.bel.grown g h.bel.size (fun j e => (gown_lt h.ow e).1)⟩
theorem A3.appO (h : A3 w2 V vo vw xs ys ga x) (g : V.grownBy W vo.ownBlock) : EI13.Own 2 W w2.heap.size vw ys ∧ Below w2.heap.size w2 W :=
  ⟨gown_same h.ow fun j hj => g.block j (gown_lt h.ow hj).2 (fun e => own_apart13 h.oo h.ow e.symm hj), h.bel.grown g h.bel.size fun j e => (gown_lt h.oo e).1⟩
end
theorem fr_cell13 {S : Nat → Prop} {a b : World} {k : Nat} (h : Fr S a b) (hk : k < a.heap.size) (hn : ¬ S k) (o : Nat) : b.cell? ⟨k, o, none⟩ = a.cell? ⟨k, o, none⟩ := by
  have e := h.at' k hk hn
  simp only [World.cell?, e]
theorem defs_le : ∀ {l : List Du}, (∀ d, d ∈ l → In d) → defs l ≤ 100000000000000000 * (l.length : Int)
  | [], _ => by simp [defs]
  | d :: l, h => by
    have h1 : defD d ≤ 100000000000000000 := by
      have := h d (by simp)
      unfold In at this
      unfold defD
      split <;> omega
    have h2 := defs_le (l := l) fun x hx => h x (by simp [hx])
    simp only [defs, List.length_cons]
    omega
variable {f : Int} {l : List Du}
theorem May.step_bd (h : May f l) (k : Nat) : (0 ≤ leftS f (l.take k) ∧ leftS f (l.take k) ≤ 6400000000000000000) ∧ (0 ≤ fundS f (l.take k) ∧ fundS f (l.take k) ≤ 1000000000000000) := by
  have h1 := defs_le (l := l.take k) fun d hd => h.ins d (List.mem_of_mem_take hd)
  have h2 := defs_nn (l.take k)
  have h3 := List.length_take_le k l
  have h5 : (l.take k).length ≤ l.length := by rw [List.length_take]; omega
  have h4 := h.len
  have h6 := h.fund
  unfold leftS fundS
  constructor <;> constructor <;> split <;> omega
theorem May.ng (h : May f l) : false = true ↔ Ng (l.map wt) := by
  constructor
  · intro c; cases c
  · rintro ⟨t, ht, hn⟩
    have := getD_wt h t
    omega
theorem May.se (h : May f l) : Go.Proofs.Ytlbekdpmfjhjhaa.se (leftS f l) (l.map wt) false = 0 := by
  have hl := h.left
  have hn := h.len
  unfold Go.Proofs.Ytlbekdpmfjhjhaa.se
  rw [if_neg (by rw [List.length_map]; omega), if_neg (by omega), tE_in (by unfold I64; omega)]
  by_cases c : leftS f l = 0
  · simp [c]
  · simp only [c, if_false]
    rw [if_neg (show ¬ sm (l.map wt) = 0 by omega)]
    simp
theorem May.ord (h : May f l) : ∃ g, 0 < leftS f l → Al2 (leftS f l) (l.map wt) g := by
  by_cases c : leftS f l = 0
  · exact ⟨fun _ => 0, fun k => absurd k (by omega)⟩
  · obtain ⟨g, al⟩ := h.order c
    exact ⟨g, fun _ => al⟩
theorem May.pt (h : May f l) {g : Nat → Int} (hg : 0 < leftS f l → Al2 (leftS f l) (l.map wt) g) : Go.Proofs.Ytlbekdpmfjhjhaa.pt (leftS f l) (l.map wt) g = cuts (leftS f l) (l.map wt) := by
  unfold cuts
  by_cases c : leftS f l = 0
  · rw [if_pos c, c, pt_zero, List.map_const']
  · have := h.left
    rw [if_neg c, Cut.pt_go (hg (by omega))]
theorem May.wi (h : May f l) : ∀ n, n ∈ l.map wt → I64 n := fun n hn => by
  obtain ⟨d, hd, rfl⟩ := List.mem_map.1 hn
  have := wt_bd (h.ins d hd)
  unfold I64
  omega
end Go.Proofs.Ytlbekdpmfjhjhaa
