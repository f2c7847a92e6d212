/- Rows of structs in memory, whatever the struct: made, read, cut, appended to, written; no program's function, no program's type. -/
import Derived.Maps.AppendAt
import Derived.Laws.AppendOwnNone
import Derived.Laws.Tables
import Derived.Laws.Rows
import Derived.Laws.ResultCell
import Derived.Great.BuildSlice
import Derived.BigFrame
import Derived.OrdersHeld
import Derived.RegionTactic
import Derived.Test.YtpfhkmppbochnaaHFr
namespace Go.Proofs.Ytpfhkmppbochnaa
open Go.RowKit
set_option linter.unusedVariables false

/-- A struct: its cells; each has N of them, each one cell. -/
structure Elt (α : Type) where
  cells : α → List Value
  N : Nat
  pos : 0 < N
  len : ∀ x, (cells x).length = N
  one : ∀ x, ∀ u ∈ cells x, u.oneCell' = true
/-- What a program says of its type te, and of the slices ts of it. -/
structure EltT {α : Type} (P : Program) (E : Elt α) (ts te : TypeId) : Prop where
  und : P.underlying ts = some (.slice te)
  row : ∃ fs, P.underlying te = some (.struct fs)
  info : ∃ z by', (P.info? te).map (fun i => (i.zero, i.size, i.bytes)) = some (some z, E.N, by') ∧ z.cells.size = E.N ∧ by' ≤ 4096
section
variable {α : Type} {E : Elt α}
def Elt.flat (E : Elt α) (l : List α) : List Value := l.flatMap E.cells
theorem gflat_app (l m : List α) : E.flat (l ++ m) = E.flat l ++ E.flat m := by simp [Elt.flat]
theorem gflat_one (x : α) : E.flat [x] = E.cells x := by simp [Elt.flat]
theorem gflat_cons (x : α) (l : List α) : E.flat (x :: l) = E.cells x ++ E.flat l := by simp [Elt.flat]
theorem gflat_len : ∀ l : List α, (E.flat l).length = l.length * E.N
  | [] => by simp [Elt.flat]
  | x :: l => by rw [gflat_cons, List.length_append, E.len, gflat_len l, List.length_cons, Nat.succ_mul, Nat.add_comm]
theorem gflat_cells (l : List α) : ∀ u ∈ E.flat l, u.oneCell' = true := by
  intro u hu
  obtain ⟨x, _, hx⟩ := List.mem_flatMap.1 hu
  exact E.one x u hx
theorem gflat_at : ∀ (l : List α) (k : Nat) (x : α), l[k]? = some x → ∀ i, i < E.N → (E.flat l)[k * E.N + i]? = (E.cells x)[i]?
  | [], k, x, h, _, _ => by simp at h
  | y :: l, 0, x, hk, i, hi => by
    obtain rfl : y = x := by simpa using hk
    rw [gflat_cons, Nat.zero_mul, Nat.zero_add, List.getElem?_append_left (by rw [E.len]; exact hi)]
  | y :: l, k + 1, x, hk, i, hi => by
    rw [gflat_cons, List.getElem?_append_right (by rw [E.len, Nat.succ_mul]; omega), E.len, show (k + 1) * E.N + i - E.N = k * E.N + i by rw [Nat.succ_mul]; omega]
    exact gflat_at l k x (by simpa using hk) i hi
theorem gflat_set : ∀ (l : List α) (k : Nat) (x y : α) (i : Nat) (u : Value), l[k]? = some x → i < E.N → E.cells y = (E.cells x).set i u → E.flat (l.set k y) = (E.flat l).set (k * E.N + i) u
  | [], k, x, y, i, u, h, _, _ => by simp at h
  | z :: l, 0, x, y, i, u, hk, hi, e => by
    obtain rfl : z = x := by simpa using hk
    rw [List.set_cons_zero, Nat.zero_mul, Nat.zero_add, gflat_cons, gflat_cons, List.set_append_left _ _ (by rw [E.len]; exact hi), e]
  | z :: l, k + 1, x, y, i, u, hk, hi, e => by
    rw [List.set_cons_succ, gflat_cons, gflat_cons, List.set_append_right _ _ (by rw [E.len, Nat.succ_mul]; omega), E.len, show (k + 1) * E.N + i - E.N = k * E.N + i by rw [Nat.succ_mul]; omega, gflat_set l k x y i u (by simpa using hk) hi e]
theorem gflat_drop : ∀ (l : List α) (i : Nat), (E.flat l).drop (i * E.N) = E.flat (l.drop i)
  | [], i => by simp [Elt.flat]
  | x :: l, 0 => by simp
  | x :: l, i + 1 => by
    rw [gflat_cons, List.drop_succ_cons, ← gflat_drop l i, Nat.succ_mul, List.drop_append, E.len, List.drop_of_length_le (by rw [E.len]; omega), List.nil_append, show i * E.N + E.N - E.N = i * E.N by omega]
theorem gflat_take : ∀ (l : List α) (i : Nat), (E.flat l).take (i * E.N) = E.flat (l.take i)
  | [], i => by simp [Elt.flat]
  | x :: l, 0 => by simp [Elt.flat]
  | x :: l, i + 1 => by
    rw [gflat_cons, List.take_succ_cons, gflat_cons, ← gflat_take l i, Nat.succ_mul, List.take_append, E.len, List.take_of_length_le (by rw [E.len]; omega), show i * E.N + E.N - E.N = i * E.N by omega]
/-- A list that is read: m of them at A. -/
def Elt.Rd (E : Elt α) (w : World) (A : Option Addr) (m : Nat) (l : List α) : Prop := l.length = m ∧ (A = none → m = 0) ∧ (0 < m → ∀ a, A = some a → a = ⟨a.block, a.off, none⟩ ∧ w.rangeAt a.block a.off (E.flat l))
variable {w W : World} {A : Option Addr} {m B : Nat} {l : List α}
theorem grd_nil (w : World) (A : Option Addr) : E.Rd w A 0 [] := ⟨rfl, fun _ => rfl, fun h => absurd h (Nat.lt_irrefl 0)⟩
theorem grd_below (h : E.Rd w A m l) (q : Below B w W) (hB : w.heap.size ≤ B) : E.Rd W A m l :=
  ⟨h.1, h.2.1, fun hm a e => ⟨(h.2.2 hm a e).1, rng_below (h.2.2 hm a e).2 q hB⟩⟩
/-- One of them. -/
theorem grd_rng (h : E.Rd w A m l) {k : Nat} {x : α} (hx : l[k]? = some x) : ∃ b o, A = some ⟨b, o, none⟩ ∧ w.rangeAt b (o + k * E.N) (E.cells x) := by
  have hk := (List.getElem?_eq_some_iff.1 hx).1
  have hm : 0 < m := by have := h.1; omega
  cases A with
  | none => have := h.2.1 rfl; omega
  | some a =>
    obtain ⟨e, r⟩ := h.2.2 hm a rfl
    refine ⟨a.block, a.off, by rw [← e], fun j u hj => ?_⟩
    have hl := (List.getElem?_eq_some_iff.1 hj).1
    rw [E.len] at hl
    rw [Nat.add_assoc]
    exact r _ _ (by rw [gflat_at l k x hx j hl, hj])
/-- A part of them. -/
theorem grd_part (h : E.Rd w A m l) {i j : Nat} (hij : i ≤ j) (hj : j ≤ m) : E.Rd w (A.map fun a => ⟨a.block, a.off + i * E.N, none⟩) (j - i) ((l.take j).drop i) := by
  have hl := h.1
  refine ⟨by rw [List.length_drop, List.length_take]; omega, fun e => ?_, fun hp a e => ?_⟩
  · cases A with
    | none => have := h.2.1 rfl; omega
    | some a => cases e
  · cases A with
    | none => cases e
    | some a0 =>
      obtain ⟨_, r⟩ := h.2.2 (by omega) a0 rfl
      cases e
      refine ⟨rfl, fun q u hq => ?_⟩
      show w.cell? ⟨a0.block, a0.off + i * E.N + q, none⟩ = some u
      rw [Nat.add_assoc]
      refine r _ _ ?_
      rw [← gflat_drop, ← gflat_take, List.getElem?_drop, List.getElem?_take] at hq
      split at hq
      · exact hq
      · cases hq
theorem grd_news {a : Addr} (h : E.Rd w (some a) m l) : ∀ j u, (E.flat l)[j]? = some u → w.cell? (a.add j) = some u := by
  intro j u hj
  have c : 0 < m := by
    rcases Nat.eq_zero_or_pos m with c | c
    · have h1 := h.1
      rw [c] at h1
      rw [List.length_eq_zero_iff.1 h1] at hj
      simp [Elt.flat] at hj
    · exact c
  obtain ⟨e, r⟩ := h.2.2 c a rfl
  obtain ⟨b, o, s⟩ := a
  cases e
  rw [Addr.add_mid]
  exact r j u hj
/-- A row of one's own. -/
def Elt.Own (E : Elt α) (te : TypeId) (w : World) (B : Nat) (v : Value) (l : List α) : Prop := w.ownsRow B te E.N v l.length (E.flat l)
variable {te : TypeId} {v : Value}
theorem gown_nil (w : World) (B : Nat) : E.Own te w B (.slice none 0 0) [] := ⟨by simp [Elt.flat], .inl ⟨rfl, rfl⟩⟩
theorem gown_new (w : World) : E.Own te (w.alloc (.cells #[] te)) w.heap.size (.slice (some ⟨w.heap.size, 0, none⟩) 0 0) [] :=
  ⟨by simp [Elt.flat], .inr ⟨w.heap.size, 0, #[], rfl, Nat.le_refl _, heap_alloc_new w _, Nat.le_refl _, by unfold maxLen; omega, by simp, by simp [Elt.flat]⟩⟩
theorem gown_form (h : E.Own te w B v l) : ∃ A c, v = .slice A l.length c ∧ (A = none → c = 0) := by
  rcases h.2 with ⟨rfl, e⟩ | ⟨b, c, cur, e, _⟩
  · exact ⟨none, 0, by rw [e], fun _ => rfl⟩
  · exact ⟨_, _, e, fun h => by cases h⟩
theorem gown_any (h : E.Own te w B v l) : ∃ A n c, v = .slice A n c := by
  obtain ⟨A, c, e, _⟩ := gown_form h
  exact ⟨A, _, c, e⟩
theorem gown_slot (h : E.Own te w B v l) (hk : 0 < l.length) : ∃ b c, v = .slice (some ⟨b, 0, none⟩) l.length c := by
  rcases h.2 with ⟨_, e⟩ | ⟨b, c, cur, e, _⟩
  · omega
  · exact ⟨b, c, e⟩
theorem gown_cap {b n c : Nat} (h : E.Own te w B (.slice (some ⟨b, 0, none⟩) n c) l) : n ≤ c ∧ c ≤ 9223372036854775807 := by
  rcases h.2 with ⟨e, _⟩ | ⟨b', c', cur, e, _, _, h1, h2, _⟩
  · cases e
  · cases e; exact ⟨h1, h2⟩
theorem gown_lt (h : E.Own te w B v l) {k : Nat} (hk : v.ownBlock = some k) : B ≤ k ∧ k < w.heap.size := by
  rcases h.2 with ⟨e, _⟩ | ⟨b, c, cur, e, hb, hh, _⟩
  · rw [e] at hk; cases hk
  · rw [e] at hk; cases hk; exact ⟨hb, (Array.getElem?_eq_some_iff.1 hh).1⟩
theorem gown_cells (h : E.Own te w B v l) {k : Nat} (hk : v.ownBlock = some k) : ∃ cur, w.heap[k]? = some (.cells cur te (0, 0)) := by
  rcases h.2 with ⟨e, _⟩ | ⟨b, c, cur, e, hb, hh, _⟩
  · rw [e] at hk; cases hk
  · rw [e] at hk; cases hk; exact ⟨cur, hh⟩
theorem gown_low {B' : Nat} (h : E.Own te w B v l) (hB : B' ≤ B) : E.Own te w B' v l := by
  refine ⟨h.1, ?_⟩
  rcases h.2 with q | ⟨b, c, cur, e, hb, r⟩
  · exact .inl q
  · exact .inr ⟨b, c, cur, e, Nat.le_trans hB hb, r⟩
theorem gown_same (h : E.Own te w B v l) (hb : ∀ k, v.ownBlock = some k → W.heap[k]? = w.heap[k]?) : E.Own te W B v l := by
  refine ⟨h.1, ?_⟩
  rcases h.2 with q | ⟨b, c, cur, e, hb2, hh, r⟩
  · exact .inl q
  · exact .inr ⟨b, c, cur, e, hb2, (hb b (by rw [e]; rfl)).trans hh, r⟩
theorem gown_fr {S : Nat → Prop} (h : E.Own te w B v l) (f : Fr S w W) (hS : ∀ k, v.ownBlock = some k → ¬ S k) : E.Own te W B v l :=
  gown_same h fun k hk => f.at' k (gown_lt h hk).2 (hS k hk)
theorem gown_below (h : E.Own te w B v l) (q : Below w.heap.size w W) : E.Own te W B v l := gown_fr h (S := fun _ => False) (Fr.below q) (fun _ _ h => h)
theorem gown_rd {n c : Nat} (h : E.Own te w B (.slice A n c) l) : E.Rd w A n l := by
  have e : n = l.length := by
    obtain ⟨A', c', e, _⟩ := gown_form h
    cases e; rfl
  subst e
  refine ⟨rfl, fun e => ?_, fun hm a e => ?_⟩
  · rcases h.2 with ⟨_, z⟩ | ⟨b, c1, cur, e1, _⟩
    · exact z
    · subst e; cases e1
  · obtain ⟨b1, c1, e1⟩ := gown_slot h hm
    cases e1; cases e
    refine ⟨rfl, fun j u hj => ?_⟩
    have hl := (List.getElem?_eq_some_iff.1 hj).1
    rw [gflat_len] at hl
    rw [Nat.zero_add, World.ownsRow.cellAt h j hl, hj]
theorem gown_fz {b n c : Nat} (h : E.Own te w B (.slice (some ⟨b, 0, none⟩) n c) l) (j : Nat) : w.frozen? ⟨b, j, none⟩ = false := by
  obtain ⟨cur, hh⟩ := gown_cells h (k := b) rfl
  simp [World.frozen?, hh]
theorem gown_at {b n c : Nat} (h : E.Own te w B (.slice (some ⟨b, 0, none⟩) n c) l) {k : Nat} {x : α} (hk : l[k]? = some x) {i : Nat} (hi : i < E.N) : w.cell? ⟨b, k * E.N + i, none⟩ = (E.cells x)[i]? := by
  obtain ⟨b', o', e, r⟩ := grd_rng (gown_rd h) hk
  cases e
  have hl : i < (E.cells x).length := by rw [E.len]; exact hi
  have := r i _ (List.getElem?_eq_getElem hl)
  rw [Nat.zero_add] at this
  rw [this, List.getElem?_eq_getElem hl]
theorem gown_rng {b n c : Nat} (h : E.Own te w B (.slice (some ⟨b, 0, none⟩) n c) l) {k : Nat} {x : α} (hk : l[k]? = some x) : w.rangeAt b (k * E.N) (E.cells x) := by
  obtain ⟨b', o', e, r⟩ := grd_rng (gown_rd h) hk
  cases e
  rw [Nat.zero_add] at r
  exact r
/-- A cell of one of them is written. -/
theorem gown_put {b n c : Nat} (h : E.Own te w B (.slice (some ⟨b, 0, none⟩) n c) l) {k : Nat} {x y : α} (hk : l[k]? = some x) {i : Nat} (hi : i < E.N) {u : Value} (e : E.cells y = (E.cells x).set i u) : E.Own te (w.setCell ⟨b, k * E.N + i, none⟩ u) B (.slice (some ⟨b, 0, none⟩) n c) (l.set k y) := by
  obtain ⟨A', c', e1, _⟩ := gown_form h
  obtain ⟨b', c1, cur, e2, hb, hh, hn, hm, hs, ht⟩ := h.2.resolve_left (fun c => by cases c.1)
  cases e1
  cases e2
  refine ⟨by rw [gflat_len], .inr ⟨b, c, cur.setIfInBounds (k * E.N + i) u, by rw [List.length_set], hb, heap_setCell_same w b _ cur _ _ hh, by rw [List.length_set]; exact hn, hm, by rw [Array.size_setIfInBounds]; exact hs, ?_⟩⟩
  rw [List.length_set, Array.toList_setIfInBounds, List.take_set, ht, gflat_set l k x y i u hk hi e]
/-- append. -/
theorem gpl_app {P : Program} {ts : TypeId} (T : EltT P E ts te) {w : World} {ops : Array Oper} {rest : List Oper} {o : Oper} {a : Act} {Q : Exit → Act → World → Prop} (hgd : o.guard = none) (s x : Operand)
    (ho : o.op = .call { callee := .builtin .append, args := #[s, x], argTypes := #[ts, ts] }) (base : Nat) (v : Value) (xs : List α) (hs : a.eval s = v)
    (hown : E.Own te w base v xs) (A : Option Addr) (m c : Nat) (l : List α) (hx : a.eval x = .slice A m c) (hr : E.Rd w A m l) (h0 : A = none → c = 0) (hlen : xs.length + m ≤ 100000) (hbase : base ≤ w.heap.size)
    (h : ∀ v' w', E.Own te w' base v' (xs ++ l) → w.grownBy w' v.ownBlock → (v'.ownBlock = v.ownBlock ∨ v'.ownBlock = some w.heap.size) → wpList P ops Q rest (a.put o.dst v') w') : wpList P ops Q (o :: rest) a w := by
  obtain ⟨z, by', hi, hzs, hby⟩ := T.info
  obtain ⟨i0, hi0, hz0, hz1, hz2⟩ := info_parts hi
  have el : (xs ++ l).length = xs.length + m := by rw [List.length_append, hr.1]
  cases A with
  | none =>
    have hm := hr.2.1 rfl
    have hc := h0 rfl
    subst hm hc
    have e : l = [] := List.eq_nil_of_length_eq_zero hr.1
    subst e
    refine wpList_append_own_none hgd s x ts ho base te i0 E.N T.und hi0 v xs.length (E.flat xs) hs hown hx ?_
    exact h v w (by rw [List.append_nil]; exact hown) (World.grownBy.refl _ _) (.inl rfl)
  | some ad =>
    refine wpList_append_own_at w hgd s x ts ho base te i0 z E.N by' T.und hi0 hz0 hz1 hz2 hzs E.pos v xs.length (E.flat xs) hs hown ad m c (E.flat l) hx ?_ (grd_news hr) (gflat_cells _) (by unfold maxLen; omega) ?_ hbase fun v' w' h2 h3 _ h5 => h v' w' (by unfold Elt.Own; rw [el, gflat_app]; exact h2) h3 h5
    · rw [gflat_len, hr.1]
    · have := Nat.mul_le_mul hlen hby
      omega
/-- append, at the operation. -/
theorem gwp_app {P : Program} {ts : TypeId} (T : EltT P E ts te) {w : World} {o : Oper} {a : Act} {K : Act → World → Prop} {Q : Exit → Act → World → Prop} (s x : Operand)
    (ho : o.op = .call { callee := .builtin .append, args := #[s, x], argTypes := #[ts, ts] }) (base : Nat) (v : Value) (xs : List α) (hs : a.eval s = v)
    (hown : E.Own te w base v xs) (A : Option Addr) (m c : Nat) (l : List α) (hx : a.eval x = .slice A m c) (hr : E.Rd w A m l) (h0 : A = none → c = 0) (hlen : xs.length + m ≤ 100000) (hbase : base ≤ w.heap.size)
    (h : ∀ v' w', E.Own te w' base v' (xs ++ l) → w.grownBy w' v.ownBlock → (v'.ownBlock = v.ownBlock ∨ v'.ownBlock = some w.heap.size) → K (a.put o.dst v') w') : o.wp P a w K Q := by
  obtain ⟨z, by', hi, hzs, hby⟩ := T.info
  obtain ⟨i0, hi0, hz0, hz1, hz2⟩ := info_parts hi
  have el : (xs ++ l).length = xs.length + m := by rw [List.length_append, hr.1]
  cases A with
  | none =>
    have hm := hr.2.1 rfl
    have hc := h0 rfl
    subst hm hc
    have e : l = [] := List.eq_nil_of_length_eq_zero hr.1
    subst e
    have hrun := run_append_owned_none (P := P) (w := w) base ts o.type te i0 E.N T.und hi0 v xs.length (E.flat xs) hown
    unfold Oper.wp
    simp [execOp, ho, resolve, invoke, builtin, hs, hx, hrun, Result.andThen]
    exact h v w (by rw [List.append_nil]; exact hown) (World.grownBy.refl _ _) (.inl rfl)
  | some ad =>
    obtain ⟨v', w', hrun, h2, h3, h4, h5⟩ := run_append_own_at (P := P) w base ts o.type te i0 z E.N by' T.und hi0 hz0 hz1 hz2 hzs E.pos v xs.length (E.flat xs) hown ad m c (E.flat l) (by rw [gflat_len, hr.1]) (grd_news hr) (gflat_cells _) (by unfold maxLen; omega) (by have := Nat.mul_le_mul hlen hby; omega) hbase
    unfold Oper.wp execOp
    simp only [ho, resolve, invoke, builtin, Sem.run_bind, Sem.run_pure, Result.andThen_ok, List.map_toArray, List.map_cons, List.map_nil, hs, hx, hrun]
    exact h v' w' (by unfold Elt.Own; rw [el, gflat_app]; exact h2) h3 h5
/-- A slice of one built, at the operation. -/
theorem gwp_bs {P : Program} {ts : TypeId} (T : EltT P E ts te) {w : World} {o : Oper} {a : Act} {K : Act → World → Prop} {Q : Exit → Act → World → Prop} {x : Operand} (ho : o.op = .buildSlice ts 1 #[(0, x)]) {s : α} (hx : a.eval x = .agg (E.cells s).toArray)
    (hf : ∀ z : Value, z.cells.size = E.N → Instr.fill (fun i => some (i * E.N, E.N)) ((Array.range (1 * E.N)).map (z.cells[· % z.cells.size]!)) [(0, .agg (E.cells s).toArray)] = some (E.cells s).toArray)
    (h : K (a.put o.dst (.slice (some ⟨w.heap.size, 0, none⟩) 1 1)) (w.alloc (.cells (E.cells s).toArray te))) (hN : E.N ≤ 100000) : o.wp P a w K Q := by
  obtain ⟨z, by', hi, hzs, _⟩ := T.info
  obtain ⟨ie, h1, h2, h3, _⟩ := info_parts hi
  refine wp_buildSlice ts te 1 #[(0, x)] ho (E.cells s).toArray ie z T.und h1 h2 (by rw [h3, Nat.one_mul]; have e : 2 ^ 24 = 16777216 := rfl; rw [e]; omega) (by rw [h3]; have := E.pos; omega) ?_ h
  rw [h3, show ((#[(0, x)] : Array (Nat × Operand)).map fun (i, x) => (i, a.eval x)).toList = [(0, a.eval x)] from by simp, hx]
  exact hf z hzs
theorem below_row0 {base : Nat} {w W : World} {g : Nat} {cs : Array Value} (b : Below base w W) (h : base ≤ g) : Below base w (W.setRow g cs) :=
  ⟨b.os, b.tape, b.output, by
    have := b.size
    show w.heap.size ≤ (W.heap.modify g _).size
    rw [Array.size_modify]; exact this, fun i hi => (setRow_other W g i cs (by omega)).trans (b.block i hi)⟩
theorem fr_row {S : Nat → Prop} {W : World} {g : Nat} (h : S g) (cs : Array Value) : Fr S W (W.setRow g cs) :=
  ⟨below_row0 (Below.refl 0 W) (Nat.zero_le _), fun i _ hn => setRow_other W g i cs (fun e => hn (e ▸ h))⟩
/-- A struct in a block of its own. -/
def Elt.Bx (E : Elt α) (te : TypeId) (w : World) (g : Nat) (x : α) : Prop := w.heap[g]? = some (.cells (E.cells x).toArray te (0, 0))
theorem gbx_new (w : World) (x : α) : E.Bx te (w.alloc (.cells (E.cells x).toArray te)) w.heap.size x := heap_alloc_new w _
theorem gbx_cell {g : Nat} {x : α} (h : E.Bx te w g x) (j : Nat) : w.cell? ⟨g, j, none⟩ = (E.cells x)[j]? := by rw [cell_of_row _ _ _ _ _ _ h]; simp
theorem gbx_rng {g : Nat} {x : α} (h : E.Bx te w g x) : w.rangeAt g 0 (E.cells x) := fun j u hj => by rw [Nat.zero_add, gbx_cell h, hj]
theorem gbx_rd {g : Nat} {x : α} (h : E.Bx te w g x) : E.Rd w (some ⟨g, 0, none⟩) 1 [x] := ⟨rfl, (fun h => by cases h), fun _ a e => by cases e; exact ⟨rfl, by rw [gflat_one]; exact gbx_rng h⟩⟩
theorem gbx_below {g : Nat} {x : α} (h : E.Bx te w g x) (q : Below w.heap.size w W) : E.Bx te W g x := (q.block g (Array.getElem?_eq_some_iff.1 h).1).trans h
theorem gbx_set {g : Nat} {x y : α} (h : E.Bx te w g y) : E.Bx te (w.setRow g (E.cells x).toArray) g x := setRow_heap w g _ _ _ _ h
theorem gbx_fz {g : Nat} {x : α} (h : E.Bx te w g x) (j : Nat) : w.frozen? ⟨g, j, none⟩ = false := by simp [World.frozen?, show w.heap[g]? = _ from h]
theorem gbx_put {g : Nat} {x y : α} (h : E.Bx te w g x) {i : Nat} {u : Value} (e : E.cells y = (E.cells x).set i u) : E.Bx te (w.setCell ⟨g, i, none⟩ u) g y := by
  unfold Elt.Bx
  rw [heap_setCell_same w g i _ _ u h, e, List.setIfInBounds_toArray]
section
variable {P : Program} {ts : TypeId} {ops : Array Oper} {rest : List Oper} {a : Act} {Q : Exit → Act → World → Prop} {d : Option Nat} {x y : Operand} {ty : TypeId} {ps : String} {af : Array Edge} {gd : Option (Nat × Bool)}
theorem gsize (T : EltT P E ts te) : (P.info? te).map (fun i => i.size) = some E.N := by
  obtain ⟨z, by', hi, _, _⟩ := T.info
  obtain ⟨i0, hi0, _, hz1, _⟩ := info_parts hi
  rw [hi0]; simp [hz1]
/-- A whole struct loaded, guarded or not; stored. -/
theorem gwl_load (T : EltT P E ts te) {s : α} (b o : Nat) (hb : w.rangeAt b o (E.cells s))
    (hw : Region.wanted ⟨d, .load te x, ty, ps, af, gd⟩ (yielded ops a.tmps) = true) (hx : a.eval x = .pointer (some ⟨b, o, none⟩)) (h : wpList P ops Q rest (a.put d (.agg (E.cells s).toArray)) w) : wpList P ops Q (⟨d, .load te x, ty, ps, af, gd⟩ :: rest) a w := by
  obtain ⟨fs, hu⟩ := T.row
  exact BigFrame.wpList_want hw fun _ hK => wp_load_mid te x rfl b o hx (E.cells s) _ hb hu rfl (by rw [gsize T, E.len]) (hK _ _ h)
theorem gyields_load (T : EltT P E ts te) {S : World → Prop} {o : Oper} {a : Act} (hw : Region.wanted o (yielded ops a.tmps) = true) (x : Operand) (ho : o.op = .load te x) (b k : Nat) (hx : a.eval x = .pointer (some ⟨b, k, none⟩)) {s : α} (hS : ∀ w, S w → w.rangeAt b k (E.cells s)) :
    YieldsIf P ops S o (.agg (E.cells s).toArray) a := by
  obtain ⟨fs, hu⟩ := T.row
  exact yieldsIf_load_mid hw te x ho b k hx (E.cells s) _ hS hu rfl (by rw [gsize T, E.len])
theorem gall_one (s : α) : ((E.cells s).toArray.all fun v => v.oneCell') = true := by
  rw [Array.all_eq_true_iff_forall_mem]
  intro v hv
  exact E.one s v (by simpa using hv)
theorem gwl_store (T : EltT P E ts te) (s : α) {t : α} (g : Nat) (hb : E.Bx te w g t) (hx : a.eval x = .pointer (some ⟨g, 0, none⟩)) (hy : a.eval y = .agg (E.cells s).toArray)
    (h : wpList P ops Q rest (a.put d undef) (w.setRow g (E.cells s).toArray)) : wpList P ops Q (⟨d, .store te x y, ty, ps, af, none⟩ :: rest) a w :=
  wpList_store_row rfl te x y rfl g (E.cells s).toArray hx hy te (E.cells t).toArray hb (by rw [gsize T, List.size_toArray, E.len]) (by rw [List.size_toArray, List.size_toArray, E.len, E.len]) (gall_one s) h
/-- A slice of one built. -/
theorem gwl_bs (T : EltT P E ts te) {s : α} (hx : a.eval x = .agg (E.cells s).toArray)
    (hf : ∀ z : Value, z.cells.size = E.N → Instr.fill (fun i => some (i * E.N, E.N)) ((Array.range (1 * E.N)).map (z.cells[· % z.cells.size]!)) [(0, .agg (E.cells s).toArray)] = some (E.cells s).toArray)
    (h : wpList P ops Q rest (a.put d (.slice (some ⟨w.heap.size, 0, none⟩) 1 1)) (w.alloc (.cells (E.cells s).toArray te))) (hN : E.N ≤ 100000) :
    wpList P ops Q ({ dst := d, op := .buildSlice ts 1 #[(0, x)], type := ty, pos := ps, after := af, guard := none } :: rest) a w := by
  obtain ⟨z, by', hi, hzs, _⟩ := T.info
  obtain ⟨ie, h1, h2, h3, _⟩ := info_parts hi
  refine wpList_buildSlice rfl ts te 1 #[(0, x)] rfl (E.cells s).toArray ie z T.und h1 h2 (by rw [h3, Nat.one_mul]; have e : 2 ^ 24 = 16777216 := rfl; rw [e]; omega) (by rw [h3]; have := E.pos; omega) ?_ h
  rw [h3, show ((#[(0, x)] : Array (Nat × Operand)).map fun (i, x) => (i, a.eval x)).toList = [(0, a.eval x)] from by simp, hx]
  exact hf z hzs
/-- Results: a struct in a block, and a value. -/
theorem gret (T : EltT P E ts te) {fn : Func} {p u : Tmp} (h : fn.results = #[.cell p te, .tmp u]) (tmps : Array Value) (w : World) (g : Nat) {s : α} {v : Value} (hp : tmps.getD p undef = .pointer (some ⟨g, 0, none⟩)) (hv : tmps.getD u undef = v) (hb : E.Bx te w g s) :
    (results fn tmps).run P w = .ok (.tuple #[.agg (E.cells s).toArray, v]) w := by
  obtain ⟨fs, hu⟩ := T.row
  rw [results_cell_tmp h]
  simp [hp, hv, asAddr, run_loadVar_row w g te te (E.cells s).toArray (0, 0) _ hb hu rfl (by rw [gsize T, List.size_toArray, E.len])]
/-- The zero struct built. -/
theorem gwl_build0 {z : α} (hz : P.built te [] = some (E.cells z).toArray) (h : wpList P ops Q rest (a.put d (.agg (E.cells z).toArray)) w) :
    wpList P ops Q ({ dst := d, op := .build te #[], type := ty, pos := ps, after := af, guard := none } :: rest) a w := by
  have e : ∀ f : (Nat × Operand) → (Nat × Value), (Array.map f #[]).toList = [] := fun f => by simp
  refine wpList_build rfl te #[] rfl (by rw [e, hz]; rfl) ?_
  rw [e, hz]
  exact h
end
end
end Go.Proofs.Ytpfhkmppbochnaa
