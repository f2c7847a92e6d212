/- Plain facts on lists of bytes that are made, joined, appended to; no program's function. -/
import Derived.Test.YtlnakhbcefmiaaaBy
import Derived.Deep.RegionHeld3
import Derived.Laws.AppendOwnNone
import Derived.OpenShut
namespace Go.Proofs.Ytlnakhbcefmiaaa
open Go.RowKit

/-- What a form's call hands back: a new list. -/
def Made (w : World) (bs : List Int) (e : Ending) (W : World) : Prop := ∃ v, e = .returned v ∧ New w W v bs
theorem own_one (w : World) (x : Int) : (w.alloc (.cells #[.int .u8 x] 5)).ownsRow w.heap.size 5 1 (.slice (some ⟨w.heap.size, 0, none⟩) 1 1) 1 [.int .u8 x] :=
  ⟨rfl, .inr ⟨w.heap.size, 1, #[.int .u8 x], rfl, Nat.le_refl _, heap_alloc_new w _, Nat.le_refl _, by unfold maxLen; omega, rfl, rfl⟩⟩
theorem new_one (w : World) (x : Int) : New w (w.alloc (.cells #[.int .u8 x] 5)) (.slice (some ⟨w.heap.size, 0, none⟩) 1 1) [x] :=
  ⟨own_one w x, (Below.refl _ w).alloc (Nat.le_refl _) _⟩
theorem own_none (w : World) : (w.alloc (.cells #[] 5)).ownsRow w.heap.size 5 1 (.slice (some ⟨w.heap.size, 0, none⟩) 0 0) 0 [] :=
  ⟨rfl, .inr ⟨w.heap.size, 0, #[], rfl, Nat.le_refl _, heap_alloc_new w _, Nat.le_refl _, by unfold maxLen; omega, rfl, rfl⟩⟩
theorem two_alloc (w : World) (a b : Obj) : w.heap.size ≤ ((w.alloc a).alloc b).heap.size := by
  have h1 : (w.alloc a).heap.size = w.heap.size + 1 := by simp
  have h2 : ((w.alloc a).alloc b).heap.size = (w.alloc a).heap.size + 1 := by simp
  omega
theorem one_alloc (w : World) (a : Obj) : w.heap.size ≤ (w.alloc a).heap.size := by simp
theorem own_cap {W : World} {base g cap m : Nat} {e : TypeId} {size : Nat} {xs : List Value} (h : W.ownsRow base e size (.slice (some ⟨g, 0, none⟩) m cap) m xs) : m ≤ cap := by
  rcases h.2 with ⟨h', _⟩ | ⟨g', cap', cur, h', _, _, hc, _⟩
  · simp at h'
  · simp only [Value.slice.injEq] at h'
    omega
/-- S may be made stronger on the way. -/
theorem wpAnyH_more {P : Program} {ops : Array Oper} {Q : Exit → Act → World → Prop} {md : Region.Mode} {S S1 : World → Prop} (hs : ∀ w, S1 w → S w) : ∀ (fuel : Nat) (listed : Array Bool) (a : Act) (w : World),
    wpAnyH P md ops Q S1 fuel listed a w → wpAnyH P md ops Q S fuel listed a w
  | 0, _, _, _, h => h
  | fuel + 1, listed, a, w, h => by
    exact ⟨h.1, fun i hi => wpOp_mono (fun a' w' k => ⟨hs _ k.1, wpAnyH_more hs fuel _ a' w' k.2⟩) (h.2 i hi)⟩
theorem owns_rd {W : World} {base : Nat} {v : Value} {bs : List Int} (o : W.ownsRow base 5 1 v bs.length (bs.map (Value.int .u8))) : ∃ A c, v = .slice A bs.length c ∧ RdB W A bs.length bs := by
  rcases o.2 with ⟨e1, e2⟩ | ⟨g, cap, cur, e1, _, _⟩
  · exact ⟨none, 0, by rw [e1, e2], rfl, fun hn => absurd hn (by omega)⟩
  · rw [e1] at o
    refine ⟨some ⟨g, 0, none⟩, cap, e1, rfl, fun _ => ⟨g, 0, rfl, fun j hj => ?_⟩⟩
    rw [Nat.zero_add, o.cellAt j (by omega)]
    simp [List.getD, hj]
theorem map_snoc (l : List Int) (x : Int) : (l ++ [x]).map (Value.int .u8) = l.map (Value.int .u8) ++ [.int .u8 x] := by simp
theorem len_map (l : List Int) (n : Nat) (h : l.length = n) : (l.map (Value.int .u8)).length = n := by rw [List.length_map]; exact h
theorem new_news (wr : World) (x : Int) : ∀ j u, ([.int .u8 x] : List Value)[j]? = some u → (wr.alloc (.cells #[.int .u8 x] 5)).cell? ((⟨wr.heap.size, 0, none⟩ : Addr).add j) = some u := by
  intro j u hj
  match j, hj with
  | 0, hj => simp at hj; subst hj; simp [Addr.add]
theorem one_x (x : Int) : ∀ u ∈ ([.int .u8 x] : List Value), u.oneCell' = true := by intro u hu; simp at hu; subst hu; rfl
/-- A part of what is joined. -/
structure Pt where
  A : Option Addr
  n : Nat
  c : Nat
  bs : List Int
def Pt.v (p : Pt) : Value := .slice p.A p.n p.c
def Pt.ok (W : World) (p : Pt) : Prop := RdB W p.A p.n p.bs ∧ (p.A = none → p.n = 0 ∧ p.c = 0)
def cat : List Pt → List Int
  | [] => []
  | p :: l => p.bs ++ cat l
theorem cat_take : ∀ (ps : List Pt) (k : Nat) (p : Pt), ps[k]? = some p → cat (ps.take (k + 1)) = cat (ps.take k) ++ p.bs
  | [], k, p, h => by simp at h
  | q :: l, 0, p, h => by simp at h; subst h; simp [cat]
  | q :: l, k + 1, p, h => by
    have := cat_take l k p (by simpa using h)
    simp [cat, this]
theorem cat_le : ∀ (ps : List Pt) (k : Nat), (cat (ps.take k)).length ≤ (cat ps).length
  | [], k => by simp
  | q :: l, 0 => by simp [cat]
  | q :: l, k + 1 => by
    have := cat_le l k
    simp [cat]; omega
theorem owns_pt {W : World} {base : Nat} {v : Value} {bs : List Int} (o : W.ownsRow base 5 1 v bs.length (bs.map (Value.int .u8))) : ∃ A c, v = .slice A bs.length c ∧ RdB W A bs.length bs ∧ (A = none → bs.length = 0 ∧ c = 0) := by
  rcases o.2 with ⟨e1, e2⟩ | ⟨g, cap, cur, e1, _, _⟩
  · exact ⟨none, 0, by rw [e1, e2], ⟨rfl, fun hn => absurd hn (by omega)⟩, fun _ => ⟨e2, rfl⟩⟩
  · rw [e1] at o
    refine ⟨some ⟨g, 0, none⟩, cap, e1, ⟨rfl, fun _ => ⟨g, 0, rfl, fun j hj => ?_⟩⟩, fun h => by cases h⟩
    rw [Nat.zero_add, o.cellAt j (by omega)]
    simp [List.getD, hj]
theorem own_less {W : World} {base base' e size n : Nat} {v : Value} {xs : List Value} (o : W.ownsRow base' e size v n xs) (h : base ≤ base') : W.ownsRow base e size v n xs := by
  refine ⟨o.1, ?_⟩
  rcases o.2 with h1 | ⟨g, cap, cur, e1, hb, rest⟩
  · exact .inl h1
  · exact .inr ⟨g, cap, cur, e1, Nat.le_trans h hb, rest⟩
theorem below_grown {W W' : World} (h : Below W.heap.size W W') (row : Option Nat) : W.grownBy W' row := ⟨h.os, h.tape, h.output, h.size, fun k hk _ => h.block k hk⟩
/-- The list of two or three parts that a call joins, as it lies in memory. -/
theorem two_at (W : World) (p q : Pt) : ∀ j r, [p, q][j]? = some r → (W.alloc (.cells #[p.v, q.v] 30)).cell? ⟨W.heap.size, j, none⟩ = some r.v := by
  intro j r h
  match j, h with
  | 0, h => simp at h; subst h; simp
  | 1, h => simp at h; subst h; simp
theorem three_at (W : World) (p q s : Pt) : ∀ j r, [p, q, s][j]? = some r → (W.alloc (.cells #[p.v, q.v, s.v] 30)).cell? ⟨W.heap.size, j, none⟩ = some r.v := by
  intro j r h
  match j, h with
  | 0, h => simp at h; subst h; simp
  | 1, h => simp at h; subst h; simp
  | 2, h => simp at h; subst h; simp
theorem Pt.ok.below {W W' : World} {p : Pt} (h : p.ok W) (b : Below W.heap.size W W') : p.ok W' := ⟨h.1.below b, h.2⟩
theorem size_alloc (w : World) (o : Obj) : (w.alloc o).heap.size = w.heap.size + 1 := by simp
/-- A byte is written in a row of one's own. -/
theorem own_put {W : World} {base gt nt cap k : Nat} {xs : List Int} (o : W.ownsRow base 5 1 (.slice (some ⟨gt, 0, none⟩) nt cap) nt (xs.map (Value.int .u8))) (y : Int) :
    (W.setCell ⟨gt, k, none⟩ (.int .u8 y)).ownsRow base 5 1 (.slice (some ⟨gt, 0, none⟩) nt cap) nt ((xs.set k y).map (Value.int .u8)) ∧ W.frozen? ⟨gt, k, none⟩ = false ∧ base ≤ gt := by
  obtain ⟨g', cap', cur, e, hg, hh, hn, hm, hs, ht⟩ := o.2.resolve_left (fun c => by cases c.1)
  cases e
  refine ⟨⟨?_, .inr ⟨gt, cap, cur.setIfInBounds k (.int .u8 y), rfl, hg, heap_setCell_same W gt k cur _ _ hh, hn, hm, by rw [Array.size_setIfInBounds]; exact hs, ?_⟩⟩, frozen_of_row W gt k _ _ hh, hg⟩
  · have := o.1
    rw [List.length_map] at this
    rw [List.length_map, List.length_set]; exact this
  · rw [Array.toList_setIfInBounds, List.take_set, ht, List.map_set]
/-- A list that is nil or not, behind a row of one's own. -/
theorem wpl_append {w : World} {ops : Array Oper} {rest : List Oper} {o : Oper} {a : Act} {Q : Exit → Act → World → Prop} (hgd : o.guard = none) (s x : Operand)
    (ho : o.op = .call { callee := .builtin .append, args := #[s, x], argTypes := #[30, 30] }) (base : Nat) (v : Value) (n : Nat) (xs : List Value) (hs : a.eval s = v)
    (hown : w.ownsRow base 5 1 v n xs) (A : Option Addr) (m c : Nat) (bs : List Int) (hx : a.eval x = .slice A m c) (hr : RdB w A m bs) (h0 : A = none → m = 0 ∧ c = 0) (hlen : n + m ≤ 4000000) (hbase : base ≤ w.heap.size)
    (h : ∀ v' w', w'.ownsRow base 5 1 v' (n + m) (xs ++ bs.map (Value.int .u8)) → w.grownBy w' v.ownBlock → wpList Try.prog ops Q rest (a.put o.dst v') w') : wpList Try.prog ops Q (o :: rest) a w := by
  obtain ⟨i0, hi0, hz0, hz1, hz2⟩ := info_parts info_u8
  cases A with
  | none =>
    obtain ⟨rfl, rfl⟩ := h0 rfl
    have e : bs = [] := List.eq_nil_of_length_eq_zero hr.1
    subst e
    refine wpList_append_own_none hgd s x 30 ho base 5 i0 1 Try.underlying30 hi0 v n xs hs hown hx ?_
    exact h v w (by simpa using hown) (World.grownBy.refl _ _)
  | some ad =>
    exact wpList_append_own w hgd s x 30 ho base 5 i0 (.int .u8 0) 1 1 Try.underlying30 hi0 hz0 hz1 hz2 rfl (by decide) v n xs hs hown ad m c (bs.map (Value.int .u8)) hx (by rw [List.length_map, hr.1, Nat.mul_one]) (news_rd hr) (one_u8 _) (by unfold maxLen; omega) (by omega) hbase fun v' w' h2 h3 _ => h v' w' h2 h3
/-- What is told of a list of bytes that came in. -/
abbrev Row8 (w : World) (a : Option Addr) (len cap : Nat) (zs : List Int) : Prop :=
  (a = none ∧ len = 0 ∧ cap = 0 ∧ zs = []) ∨ ∃ x, a = some x ∧ len ≤ cap ∧ cap ≤ maxLen ∧ zs.length = cap ∧ (∀ i, i < zs.length → w.cell? (x.add i) = some (.int .u8 (zs.getD i 0))) ∧ ∀ n ∈ zs, (Lit.int .u8 n).wf = true
theorem rdb_in {w : World} {a : Option Addr} {len cap : Nat} {zs : List Int}
    (h : (a = none ∧ len = 0 ∧ cap = 0 ∧ zs = []) ∨ ∃ x, a = some x ∧ len ≤ cap ∧ cap ≤ maxLen ∧ zs.length = cap ∧ (∀ i, i < zs.length → w.cell? (x.add i) = some (.int .u8 (zs.getD i 0))) ∧ ∀ n ∈ zs, (Lit.int .u8 n).wf = true) :
    RdB w a len (zs.take len) ∧ By (zs.take len) ∧ (a = none → len = 0 ∧ cap = 0) ∧ len ≤ cap ∧ len ≤ 9223372036854775807 := by
  rcases h with ⟨rfl, rfl, rfl, rfl⟩ | ⟨x, rfl, hl, hm, hz, hc, hw⟩
  · exact ⟨⟨rfl, fun h => absurd h (Nat.lt_irrefl 0)⟩, by intro n hn; simp at hn, fun _ => ⟨rfl, rfl⟩, Nat.le_refl _, by omega⟩
  · refine ⟨⟨by rw [List.length_take]; omega, fun hn => ?_⟩, fun n hn => bounds_u8 (hw n (List.mem_of_mem_take hn)), (fun h => by cases h), hl, by unfold maxLen at hm; omega⟩
    obtain ⟨b, off, rfl, hc'⟩ := ints_at hc (by omega)
    refine ⟨b, off, rfl, fun j hj => ?_⟩
    rw [hc' j (by omega)]
    simp [List.getD, hj]
end Go.Proofs.Ytlnakhbcefmiaaa
