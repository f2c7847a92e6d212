/- Texts of a proof, laid together: Fr, Sa, Sb, Sm, Sc. -/
import Derived.WalkKit
import Derived.Lib.Hide
import Derived.Lib.Walk
import Derived.Deep.AppendLies
import Derived.Deep.MidRow
import Derived.BigQuiet
import Derived.WalkSmall
import Derived.RangeFuncKeeps
import Derived.RangeFuncNested
import Derived.OwnWalkIn
import Derived.TacticsInMore
import Derived.LoopNIn
import Derived.LoopIn
import Derived.Test.YtdcjgcjnfcahkaaProg
import Derived.Maps.AppendAt
import Derived.Laws.AppendOwnNone
import Derived.Laws.Tables
import Derived.Laws.Rows
import Derived.Laws.ResultCell
import Derived.Great.BuildSlice
import Derived.BigFrame
import Derived.OrdersHeld
import Derived.RegionTactic
/- Frames: which blocks, which cells have turned; no program's function, no program's type. -/
namespace Go.Proofs.Ytdcjgcjnfcahkaa
open Go.RowKit
set_option linter.unusedVariables false

/-- Only blocks of S, and new ones, have turned. -/
structure Fr (S : Nat → Prop) (W W' : World) : Prop where
  b0 : Below 0 W W'
  at' : ∀ k, k < W.heap.size → ¬ S k → W'.heap[k]? = W.heap[k]?
theorem Fr.refl (S : Nat → Prop) (W : World) : Fr S W W := ⟨Below.refl 0 W, fun _ _ _ => rfl⟩
theorem Fr.trans {S T U : Nat → Prop} {a b c : World} (h : Fr S a b) (k : Fr T b c) (hS : ∀ k, S k → U k) (hT : ∀ k, k < a.heap.size → T k → U k) : Fr U a c :=
  ⟨h.b0.trans k.b0, fun i hi hn => (k.at' i (Nat.lt_of_lt_of_le hi h.b0.size) fun ht => hn (hT i hi ht)).trans (h.at' i hi fun hs => hn (hS i hs))⟩
theorem Fr.same {S : Nat → Prop} {a b c : World} (h : Fr S a b) (k : Fr S b c) : Fr S a c := h.trans k (fun _ h => h) (fun _ _ h => h)
theorem Fr.mono {S T : Nat → Prop} {a b : World} (h : Fr S a b) (hS : ∀ k, S k → T k) : Fr T a b := ⟨h.b0, fun i hi hn => h.at' i hi fun hs => hn (hS i hs)⟩
theorem Fr.below {S : Nat → Prop} {a b : World} (h : Below a.heap.size a b) : Fr S a b := ⟨h.mono (Nat.zero_le _), fun i hi _ => h.block i hi⟩
theorem Fr.set {S : Nat → Prop} {W : World} {p : Addr} (hp : S p.block) (u : Value) : Fr S W (W.setCell p u) :=
  ⟨(Below.refl 0 W).setCell (Nat.zero_le _) u, fun i _ hn => heap_setCell_other W p i u fun e => hn (e ▸ hp)⟩
theorem Fr.grown {S : Nat → Prop} {W W' : World} {row : Option Nat} (h : W.grownBy W' row) (hS : ∀ k, row = some k → S k) : Fr S W W' :=
  ⟨(Below.refl 0 W).grown h (Nat.zero_le _) (fun _ _ => Nat.zero_le _), fun i hi hn => h.block i hi fun e => hn (hS i e.symm)⟩
theorem Fr.size {S : Nat → Prop} {a b : World} (h : Fr S a b) : a.heap.size ≤ b.heap.size := h.b0.size

theorem Fr.drewN {S : Nat → Prop} {a b : World} (h : Fr S a b) (n : Nat) : Fr S a (b.drewN n) := ⟨below_drewN h.b0 n, h.at'⟩
theorem Fr.out {w W : World} (h : Fr (fun _ => False) w W) : Below w.heap.size w W := ⟨h.b0.os, h.b0.tape, h.b0.output, h.b0.size, fun k hk => h.at' k hk id⟩
/-- What a round may turn: of the cells that are there those of S alone (S hangs on the world: a list that grows lies elsewhere then); what is new is its own. -/
def Kc (S : World → Nat → Prop) (A B : World) : Prop :=
  (∀ k, S A k → k < A.heap.size) → (∀ k, S B k → k < B.heap.size) ∧ (∀ k, S B k → S A k ∨ A.heap.size ≤ k) ∧ Below 0 A B ∧ ∀ k, k < A.heap.size → ¬ S A k → (∃ cs t f, A.heap[k]? = some (.cells cs t f)) → B.heap[k]? = A.heap[k]?
theorem Kc.trans {S : World → Nat → Prop} {A B C : World} (h : Kc S A B) (k : Kc S B C) : Kc S A C := fun wf => by
  obtain ⟨h1, h2, h3, h4⟩ := h wf
  obtain ⟨k1, k2, k3, k4⟩ := k h1
  refine ⟨k1, fun j hj => ?_, h3.trans k3, fun j hj hn hc => ?_⟩
  · rcases k2 j hj with c | c
    · exact h2 j c
    · exact .inr (Nat.le_trans h3.size c)
  · have e := h4 j hj hn hc
    refine (k4 j (Nat.lt_of_lt_of_le hj h3.size) (fun c => ?_) (by rw [e]; exact hc)).trans e
    rcases h2 j c with c | c
    · exact hn c
    · omega
/-- S is told by blocks below N. -/
def Still (S : World → Nat → Prop) (N : Nat) : Prop := ∀ A B : World, N ≤ A.heap.size → (∀ k, k < N → B.heap[k]? = A.heap[k]?) → ∀ k, S B k → S A k
theorem Still.const (S : Nat → Prop) (N : Nat) : Still (fun _ => S) N := fun _ _ _ _ _ h => h
theorem Kc.below {S : World → Nat → Prop} {N : Nat} (st : Still S N) {A B : World} (hN : N ≤ A.heap.size) (q : Below A.heap.size A B) : Kc S A B := fun wf =>
  have s := st A B hN (fun k hk => q.block k (by omega))
  ⟨fun k h => Nat.lt_of_lt_of_le (wf k (s k h)) q.size, fun k h => .inl (s k h), q.mono (Nat.zero_le _), fun k hk _ _ => q.block k hk⟩
theorem Kc.put {S : World → Nat → Prop} {N : Nat} (st : Still S N) {W : World} {l : Nat} {o o' : Obj} (hl : N ≤ l) (ho : W.heap[l]? = some o) (hc : o.isCells = false) : Kc S W (W.putObj l o') := fun wf => by
  have hlt := (Array.getElem?_eq_some_iff.1 ho).1
  have g := grownBy_putObj' W l o'
  have s := st W (W.putObj l o') (by omega) (fun k hk => g.block k (by omega) (fun e => by cases e; omega))
  refine ⟨fun k h => Nat.lt_of_lt_of_le (wf k (s k h)) g.size, fun k h => .inl (s k h), (Below.refl 0 W).grown g (Nat.zero_le _) (fun _ _ => Nat.zero_le _), fun _ hk _ ⟨cs, t, f, e⟩ => g.block _ hk (fun c => ?_)⟩
  cases c
  rw [e] at ho
  cases ho
  cases hc
theorem Kc.fr {S : Nat → Prop} {A B : World} (h : Fr S A B) : Kc (fun _ => S) A B := fun wf => ⟨fun k hk => Nat.lt_of_lt_of_le (wf k hk) h.size, fun k hk => .inl hk, h.b0, fun k hk hn _ => h.at' k hk hn⟩
/-- A variable, and the row that it holds. -/
def Sv (b : Nat) (A : World) (k : Nat) : Prop := k = b ∨ ∃ a n c, A.cell? ⟨b, 0, none⟩ = some (.slice (some a) n c) ∧ a.block = k
theorem Still.var {b N : Nat} (h : b < N) : Still (Sv b) N := fun A B _ hk k hs => by
  refine hs.imp id fun ⟨a, n, c, e, hb⟩ => ⟨a, n, c, ?_, hb⟩
  rw [← e]
  exact (World.cell?_of_block (hk b h)).symm
theorem rng_below {w W : World} {b o B : Nat} {l : List Value} (h : w.rangeAt b o l) (q : Below B w W) (hB : w.heap.size ≤ B) : W.rangeAt b o l := fun j u hj => by
  have hc := h j u hj
  have hb : b < w.heap.size := by
    unfold World.cell? at hc
    rcases Nat.lt_or_ge b w.heap.size with c | c
    · exact c
    · rw [Array.getElem?_eq_none c] at hc
      cases hc
  unfold World.cell? at hc ⊢
  rw [q.block b (by omega)]
  exact hc
theorem cell_below {w W : World} {b o B : Nat} {v : Value} (hc : w.cell? ⟨b, o, none⟩ = some v) (q : Below B w W) (hB : w.heap.size ≤ B) : W.cell? ⟨b, o, none⟩ = some v := by
  have hb : b < w.heap.size := by
    unfold World.cell? at hc
    rcases Nat.lt_or_ge b w.heap.size with c | c
    · exact c
    · rw [Array.getElem?_eq_none c] at hc
      cases hc
  unfold World.cell? at hc ⊢
  rw [q.block b (by omega)]
  exact hc
theorem below_new (w : World) (o : Obj) : Below w.heap.size w (w.alloc o) := (Below.refl w.heap.size w).alloc (Nat.le_refl _) o
section
variable {P : Program} {n : Nat} {ops : Array Oper} {Q : Exit → Act → World → Prop}
theorem rows_wide {row : String} {args : Array Value} {w : World} {R : Value → World → Prop} (h : Rows P row args w R) : RowsIn Fence.wide n P row args w R :=
  fun c cs _ => let ⟨v, w', r, s⟩ := h c cs; ⟨v, w', r, stepsIn_wide.2 s⟩
theorem op_wide {o : Oper} {a : Act} {w : World} {next : Act → World → Prop} (hd : ∀ c, o.op ≠ .defer c) (h : o.wp P a w next Q) : o.wpIn Fence.wide n P a w next Q := by
  refine ⟨fun _ _ => trivial, ?_⟩
  rw [Oper.semAt_plain _ _ _ hd]
  unfold Oper.wp at h
  generalize (execOp a.eval o).run P w = r at h ⊢
  cases r with
  | ok v w' => cases v with
    | value v => exact h
    | skip => exact h
    | defer d => exact h
    | enter f args =>
      refine ⟨fun c => ?_, callsIn_wide.2 (Calls.mono h ?_)⟩
      · cases c
      · intro e w2 q
        cases e <;> exact q
    | row row args =>
      refine ⟨fun c => ?_, rows_wide h⟩
      cases c
    | _ => exact h.elim
  | halt x w' => cases x <;> first | exact h | exact h.elim
end
theorem grown_of {w w' : World} (q : Below w.heap.size w w') : w.grownBy w' none := ⟨q.os, q.tape, q.output, q.size, fun k hk _ => q.block k hk⟩
end Go.Proofs.Ytdcjgcjnfcahkaa
/- Rows of structs in memory, whatever the struct: made, read, cut, appended to, written; no program's function, no program's type. -/
namespace Go.Proofs.Ytdcjgcjnfcahkaa
open Go.RowKit
set_option linter.unusedVariables false

/-- A struct: its cells; each has N of them, each one cell. -/
structure Elt (α : Type) where
  cells : α → List Value
  N : Nat
  pos : 0 < N
  len : ∀ x, (cells x).length = N
  one : ∀ x, ∀ u ∈ cells x, u.oneCell' = true
/-- What a program says of its type te, and of the slices ts of it. -/
structure EltT {α : Type} (P : Program) (E : Elt α) (ts te : TypeId) : Prop where
  und : P.underlying ts = some (.slice te)
  row : ∃ fs, P.underlying te = some (.struct fs)
  info : ∃ z by', (P.info? te).map (fun i => (i.zero, i.size, i.bytes)) = some (some z, E.N, by') ∧ z.cells.size = E.N ∧ by' ≤ 4096
section
variable {α : Type} {E : Elt α}
def Elt.flat (E : Elt α) (l : List α) : List Value := l.flatMap E.cells
theorem gflat_app (l m : List α) : E.flat (l ++ m) = E.flat l ++ E.flat m := by simp [Elt.flat]
theorem gflat_one (x : α) : E.flat [x] = E.cells x := by simp [Elt.flat]
theorem gflat_cons (x : α) (l : List α) : E.flat (x :: l) = E.cells x ++ E.flat l := by simp [Elt.flat]
theorem gflat_len : ∀ l : List α, (E.flat l).length = l.length * E.N
  | [] => by simp [Elt.flat]
  | x :: l => by rw [gflat_cons, List.length_append, E.len, gflat_len l, List.length_cons, Nat.succ_mul, Nat.add_comm]
theorem gflat_cells (l : List α) : ∀ u ∈ E.flat l, u.oneCell' = true := by
  intro u hu
  obtain ⟨x, _, hx⟩ := List.mem_flatMap.1 hu
  exact E.one x u hx
theorem gflat_at : ∀ (l : List α) (k : Nat) (x : α), l[k]? = some x → ∀ i, i < E.N → (E.flat l)[k * E.N + i]? = (E.cells x)[i]?
  | [], k, x, h, _, _ => by simp at h
  | y :: l, 0, x, hk, i, hi => by
    obtain rfl : y = x := by simpa using hk
    rw [gflat_cons, Nat.zero_mul, Nat.zero_add, List.getElem?_append_left (by rw [E.len]; exact hi)]
  | y :: l, k + 1, x, hk, i, hi => by
    rw [gflat_cons, List.getElem?_append_right (by rw [E.len, Nat.succ_mul]; omega), E.len, show (k + 1) * E.N + i - E.N = k * E.N + i by rw [Nat.succ_mul]; omega]
    exact gflat_at l k x (by simpa using hk) i hi
theorem gflat_set : ∀ (l : List α) (k : Nat) (x y : α) (i : Nat) (u : Value), l[k]? = some x → i < E.N → E.cells y = (E.cells x).set i u → E.flat (l.set k y) = (E.flat l).set (k * E.N + i) u
  | [], k, x, y, i, u, h, _, _ => by simp at h
  | z :: l, 0, x, y, i, u, hk, hi, e => by
    obtain rfl : z = x := by simpa using hk
    rw [List.set_cons_zero, Nat.zero_mul, Nat.zero_add, gflat_cons, gflat_cons, List.set_append_left _ _ (by rw [E.len]; exact hi), e]
  | z :: l, k + 1, x, y, i, u, hk, hi, e => by
    rw [List.set_cons_succ, gflat_cons, gflat_cons, List.set_append_right _ _ (by rw [E.len, Nat.succ_mul]; omega), E.len, show (k + 1) * E.N + i - E.N = k * E.N + i by rw [Nat.succ_mul]; omega, gflat_set l k x y i u (by simpa using hk) hi e]
theorem gflat_drop : ∀ (l : List α) (i : Nat), (E.flat l).drop (i * E.N) = E.flat (l.drop i)
  | [], i => by simp [Elt.flat]
  | x :: l, 0 => by simp
  | x :: l, i + 1 => by
    rw [gflat_cons, List.drop_succ_cons, ← gflat_drop l i, Nat.succ_mul, List.drop_append, E.len, List.drop_of_length_le (by rw [E.len]; omega), List.nil_append, show i * E.N + E.N - E.N = i * E.N by omega]
theorem gflat_take : ∀ (l : List α) (i : Nat), (E.flat l).take (i * E.N) = E.flat (l.take i)
  | [], i => by simp [Elt.flat]
  | x :: l, 0 => by simp [Elt.flat]
  | x :: l, i + 1 => by
    rw [gflat_cons, List.take_succ_cons, gflat_cons, ← gflat_take l i, Nat.succ_mul, List.take_append, E.len, List.take_of_length_le (by rw [E.len]; omega), show i * E.N + E.N - E.N = i * E.N by omega]
/-- A list that is read: m of them at A. -/
def Elt.Rd (E : Elt α) (w : World) (A : Option Addr) (m : Nat) (l : List α) : Prop := l.length = m ∧ (A = none → m = 0) ∧ (0 < m → ∀ a, A = some a → a = ⟨a.block, a.off, none⟩ ∧ w.rangeAt a.block a.off (E.flat l))
variable {w W : World} {A : Option Addr} {m B : Nat} {l : List α}
theorem grd_nil (w : World) (A : Option Addr) : E.Rd w A 0 [] := ⟨rfl, fun _ => rfl, fun h => absurd h (Nat.lt_irrefl 0)⟩
theorem grd_below (h : E.Rd w A m l) (q : Below B w W) (hB : w.heap.size ≤ B) : E.Rd W A m l :=
  ⟨h.1, h.2.1, fun hm a e => ⟨(h.2.2 hm a e).1, rng_below (h.2.2 hm a e).2 q hB⟩⟩
/-- One of them. -/
theorem grd_rng (h : E.Rd w A m l) {k : Nat} {x : α} (hx : l[k]? = some x) : ∃ b o, A = some ⟨b, o, none⟩ ∧ w.rangeAt b (o + k * E.N) (E.cells x) := by
  have hk := (List.getElem?_eq_some_iff.1 hx).1
  have hm : 0 < m := by have := h.1; omega
  cases A with
  | none => have := h.2.1 rfl; omega
  | some a =>
    obtain ⟨e, r⟩ := h.2.2 hm a rfl
    refine ⟨a.block, a.off, by rw [← e], fun j u hj => ?_⟩
    have hl := (List.getElem?_eq_some_iff.1 hj).1
    rw [E.len] at hl
    rw [Nat.add_assoc]
    exact r _ _ (by rw [gflat_at l k x hx j hl, hj])
/-- A part of them. -/
theorem grd_part (h : E.Rd w A m l) {i j : Nat} (hij : i ≤ j) (hj : j ≤ m) : E.Rd w (A.map fun a => ⟨a.block, a.off + i * E.N, none⟩) (j - i) ((l.take j).drop i) := by
  have hl := h.1
  refine ⟨by rw [List.length_drop, List.length_take]; omega, fun e => ?_, fun hp a e => ?_⟩
  · cases A with
    | none => have := h.2.1 rfl; omega
    | some a => cases e
  · cases A with
    | none => cases e
    | some a0 =>
      obtain ⟨_, r⟩ := h.2.2 (by omega) a0 rfl
      cases e
      refine ⟨rfl, fun q u hq => ?_⟩
      show w.cell? ⟨a0.block, a0.off + i * E.N + q, none⟩ = some u
      rw [Nat.add_assoc]
      refine r _ _ ?_
      rw [← gflat_drop, ← gflat_take, List.getElem?_drop, List.getElem?_take] at hq
      split at hq
      · exact hq
      · cases hq
theorem grd_news {a : Addr} (h : E.Rd w (some a) m l) : ∀ j u, (E.flat l)[j]? = some u → w.cell? (a.add j) = some u := by
  intro j u hj
  have c : 0 < m := by
    rcases Nat.eq_zero_or_pos m with c | c
    · have h1 := h.1
      rw [c] at h1
      rw [List.length_eq_zero_iff.1 h1] at hj
      simp [Elt.flat] at hj
    · exact c
  obtain ⟨e, r⟩ := h.2.2 c a rfl
  obtain ⟨b, o, s⟩ := a
  cases e
  rw [Addr.add_mid]
  exact r j u hj
/-- A row of one's own. -/
def Elt.Own (E : Elt α) (te : TypeId) (w : World) (B : Nat) (v : Value) (l : List α) : Prop := w.ownsRow B te E.N v l.length (E.flat l)
variable {te : TypeId} {v : Value}
theorem gown_nil (w : World) (B : Nat) : E.Own te w B (.slice none 0 0) [] := ⟨by simp [Elt.flat], .inl ⟨rfl, rfl⟩⟩
theorem gown_new (w : World) : E.Own te (w.alloc (.cells #[] te)) w.heap.size (.slice (some ⟨w.heap.size, 0, none⟩) 0 0) [] :=
  ⟨by simp [Elt.flat], .inr ⟨w.heap.size, 0, #[], rfl, Nat.le_refl _, heap_alloc_new w _, Nat.le_refl _, by unfold maxLen; omega, by simp, by simp [Elt.flat]⟩⟩
theorem gown_form (h : E.Own te w B v l) : ∃ A c, v = .slice A l.length c ∧ (A = none → c = 0) := by
  rcases h.2 with ⟨rfl, e⟩ | ⟨b, c, cur, e, _⟩
  · exact ⟨none, 0, by rw [e], fun _ => rfl⟩
  · exact ⟨_, _, e, fun h => by cases h⟩
theorem gown_any (h : E.Own te w B v l) : ∃ A n c, v = .slice A n c := by
  obtain ⟨A, c, e, _⟩ := gown_form h
  exact ⟨A, _, c, e⟩
theorem gown_slot (h : E.Own te w B v l) (hk : 0 < l.length) : ∃ b c, v = .slice (some ⟨b, 0, none⟩) l.length c := by
  rcases h.2 with ⟨_, e⟩ | ⟨b, c, cur, e, _⟩
  · omega
  · exact ⟨b, c, e⟩
theorem gown_cap {b n c : Nat} (h : E.Own te w B (.slice (some ⟨b, 0, none⟩) n c) l) : n ≤ c ∧ c ≤ 9223372036854775807 := by
  rcases h.2 with ⟨e, _⟩ | ⟨b', c', cur, e, _, _, h1, h2, _⟩
  · cases e
  · cases e; exact ⟨h1, h2⟩
theorem gown_lt (h : E.Own te w B v l) {k : Nat} (hk : v.ownBlock = some k) : B ≤ k ∧ k < w.heap.size := by
  rcases h.2 with ⟨e, _⟩ | ⟨b, c, cur, e, hb, hh, _⟩
  · rw [e] at hk; cases hk
  · rw [e] at hk; cases hk; exact ⟨hb, (Array.getElem?_eq_some_iff.1 hh).1⟩
theorem gown_cells (h : E.Own te w B v l) {k : Nat} (hk : v.ownBlock = some k) : ∃ cur, w.heap[k]? = some (.cells cur te (0, 0)) := by
  rcases h.2 with ⟨e, _⟩ | ⟨b, c, cur, e, hb, hh, _⟩
  · rw [e] at hk; cases hk
  · rw [e] at hk; cases hk; exact ⟨cur, hh⟩
theorem gown_low {B' : Nat} (h : E.Own te w B v l) (hB : B' ≤ B) : E.Own te w B' v l := by
  refine ⟨h.1, ?_⟩
  rcases h.2 with q | ⟨b, c, cur, e, hb, r⟩
  · exact .inl q
  · exact .inr ⟨b, c, cur, e, Nat.le_trans hB hb, r⟩
theorem gown_same (h : E.Own te w B v l) (hb : ∀ k, v.ownBlock = some k → W.heap[k]? = w.heap[k]?) : E.Own te W B v l := by
  refine ⟨h.1, ?_⟩
  rcases h.2 with q | ⟨b, c, cur, e, hb2, hh, r⟩
  · exact .inl q
  · exact .inr ⟨b, c, cur, e, hb2, (hb b (by rw [e]; rfl)).trans hh, r⟩
theorem gown_fr {S : Nat → Prop} (h : E.Own te w B v l) (f : Fr S w W) (hS : ∀ k, v.ownBlock = some k → ¬ S k) : E.Own te W B v l :=
  gown_same h fun k hk => f.at' k (gown_lt h hk).2 (hS k hk)
theorem gown_below (h : E.Own te w B v l) (q : Below w.heap.size w W) : E.Own te W B v l := gown_fr h (S := fun _ => False) (Fr.below q) (fun _ _ h => h)
theorem gown_rd {n c : Nat} (h : E.Own te w B (.slice A n c) l) : E.Rd w A n l := by
  have e : n = l.length := by
    obtain ⟨A', c', e, _⟩ := gown_form h
    cases e; rfl
  subst e
  refine ⟨rfl, fun e => ?_, fun hm a e => ?_⟩
  · rcases h.2 with ⟨_, z⟩ | ⟨b, c1, cur, e1, _⟩
    · exact z
    · subst e; cases e1
  · obtain ⟨b1, c1, e1⟩ := gown_slot h hm
    cases e1; cases e
    refine ⟨rfl, fun j u hj => ?_⟩
    have hl := (List.getElem?_eq_some_iff.1 hj).1
    rw [gflat_len] at hl
    rw [Nat.zero_add, World.ownsRow.cellAt h j hl, hj]
theorem gown_fz {b n c : Nat} (h : E.Own te w B (.slice (some ⟨b, 0, none⟩) n c) l) (j : Nat) : w.frozen? ⟨b, j, none⟩ = false := by
  obtain ⟨cur, hh⟩ := gown_cells h (k := b) rfl
  simp [World.frozen?, hh]
theorem gown_at {b n c : Nat} (h : E.Own te w B (.slice (some ⟨b, 0, none⟩) n c) l) {k : Nat} {x : α} (hk : l[k]? = some x) {i : Nat} (hi : i < E.N) : w.cell? ⟨b, k * E.N + i, none⟩ = (E.cells x)[i]? := by
  obtain ⟨b', o', e, r⟩ := grd_rng (gown_rd h) hk
  cases e
  have hl : i < (E.cells x).length := by rw [E.len]; exact hi
  have := r i _ (List.getElem?_eq_getElem hl)
  rw [Nat.zero_add] at this
  rw [this, List.getElem?_eq_getElem hl]
theorem gown_rng {b n c : Nat} (h : E.Own te w B (.slice (some ⟨b, 0, none⟩) n c) l) {k : Nat} {x : α} (hk : l[k]? = some x) : w.rangeAt b (k * E.N) (E.cells x) := by
  obtain ⟨b', o', e, r⟩ := grd_rng (gown_rd h) hk
  cases e
  rw [Nat.zero_add] at r
  exact r
/-- A cell of one of them is written. -/
theorem gown_put {b n c : Nat} (h : E.Own te w B (.slice (some ⟨b, 0, none⟩) n c) l) {k : Nat} {x y : α} (hk : l[k]? = some x) {i : Nat} (hi : i < E.N) {u : Value} (e : E.cells y = (E.cells x).set i u) : E.Own te (w.setCell ⟨b, k * E.N + i, none⟩ u) B (.slice (some ⟨b, 0, none⟩) n c) (l.set k y) := by
  obtain ⟨A', c', e1, _⟩ := gown_form h
  obtain ⟨b', c1, cur, e2, hb, hh, hn, hm, hs, ht⟩ := h.2.resolve_left (fun c => by cases c.1)
  cases e1
  cases e2
  refine ⟨by rw [gflat_len], .inr ⟨b, c, cur.setIfInBounds (k * E.N + i) u, by rw [List.length_set], hb, heap_setCell_same w b _ cur _ _ hh, by rw [List.length_set]; exact hn, hm, by rw [Array.size_setIfInBounds]; exact hs, ?_⟩⟩
  rw [List.length_set, Array.toList_setIfInBounds, List.take_set, ht, gflat_set l k x y i u hk hi e]
/-- append. -/
theorem gpl_app {P : Program} {ts : TypeId} (T : EltT P E ts te) {w : World} {ops : Array Oper} {rest : List Oper} {o : Oper} {a : Act} {Q : Exit → Act → World → Prop} (hgd : o.guard = none) (s x : Operand)
    (ho : o.op = .call { callee := .builtin .append, args := #[s, x], argTypes := #[ts, ts] }) (base : Nat) (v : Value) (xs : List α) (hs : a.eval s = v)
    (hown : E.Own te w base v xs) (A : Option Addr) (m c : Nat) (l : List α) (hx : a.eval x = .slice A m c) (hr : E.Rd w A m l) (h0 : A = none → c = 0) (hlen : xs.length + m ≤ 100000) (hbase : base ≤ w.heap.size)
    (h : ∀ v' w', E.Own te w' base v' (xs ++ l) → w.grownBy w' v.ownBlock → (v'.ownBlock = v.ownBlock ∨ v'.ownBlock = some w.heap.size) → wpList P ops Q rest (a.put o.dst v') w') : wpList P ops Q (o :: rest) a w := by
  obtain ⟨z, by', hi, hzs, hby⟩ := T.info
  obtain ⟨i0, hi0, hz0, hz1, hz2⟩ := info_parts hi
  have el : (xs ++ l).length = xs.length + m := by rw [List.length_append, hr.1]
  cases A with
  | none =>
    have hm := hr.2.1 rfl
    have hc := h0 rfl
    subst hm hc
    have e : l = [] := List.eq_nil_of_length_eq_zero hr.1
    subst e
    refine wpList_append_own_none hgd s x ts ho base te i0 E.N T.und hi0 v xs.length (E.flat xs) hs hown hx ?_
    exact h v w (by rw [List.append_nil]; exact hown) (World.grownBy.refl _ _) (.inl rfl)
  | some ad =>
    refine wpList_append_own_at w hgd s x ts ho base te i0 z E.N by' T.und hi0 hz0 hz1 hz2 hzs E.pos v xs.length (E.flat xs) hs hown ad m c (E.flat l) hx ?_ (grd_news hr) (gflat_cells _) (by unfold maxLen; omega) ?_ hbase fun v' w' h2 h3 _ h5 => h v' w' (by unfold Elt.Own; rw [el, gflat_app]; exact h2) h3 h5
    · rw [gflat_len, hr.1]
    · have := Nat.mul_le_mul hlen hby
      omega
/-- append, at the operation. -/
theorem gwp_app {P : Program} {ts : TypeId} (T : EltT P E ts te) {w : World} {o : Oper} {a : Act} {K : Act → World → Prop} {Q : Exit → Act → World → Prop} (s x : Operand)
    (ho : o.op = .call { callee := .builtin .append, args := #[s, x], argTypes := #[ts, ts] }) (base : Nat) (v : Value) (xs : List α) (hs : a.eval s = v)
    (hown : E.Own te w base v xs) (A : Option Addr) (m c : Nat) (l : List α) (hx : a.eval x = .slice A m c) (hr : E.Rd w A m l) (h0 : A = none → c = 0) (hlen : xs.length + m ≤ 100000) (hbase : base ≤ w.heap.size)
    (h : ∀ v' w', E.Own te w' base v' (xs ++ l) → w.grownBy w' v.ownBlock → (v'.ownBlock = v.ownBlock ∨ v'.ownBlock = some w.heap.size) → K (a.put o.dst v') w') : o.wp P a w K Q := by
  obtain ⟨z, by', hi, hzs, hby⟩ := T.info
  obtain ⟨i0, hi0, hz0, hz1, hz2⟩ := info_parts hi
  have el : (xs ++ l).length = xs.length + m := by rw [List.length_append, hr.1]
  cases A with
  | none =>
    have hm := hr.2.1 rfl
    have hc := h0 rfl
    subst hm hc
    have e : l = [] := List.eq_nil_of_length_eq_zero hr.1
    subst e
    have hrun := run_append_owned_none (P := P) (w := w) base ts o.type te i0 E.N T.und hi0 v xs.length (E.flat xs) hown
    unfold Oper.wp
    simp [execOp, ho, resolve, invoke, builtin, hs, hx, hrun, Result.andThen]
    exact h v w (by rw [List.append_nil]; exact hown) (World.grownBy.refl _ _) (.inl rfl)
  | some ad =>
    obtain ⟨v', w', hrun, h2, h3, h4, h5⟩ := run_append_own_at (P := P) w base ts o.type te i0 z E.N by' T.und hi0 hz0 hz1 hz2 hzs E.pos v xs.length (E.flat xs) hown ad m c (E.flat l) (by rw [gflat_len, hr.1]) (grd_news hr) (gflat_cells _) (by unfold maxLen; omega) (by have := Nat.mul_le_mul hlen hby; omega) hbase
    unfold Oper.wp execOp
    simp only [ho, resolve, invoke, builtin, Sem.run_bind, Sem.run_pure, Result.andThen_ok, List.map_toArray, List.map_cons, List.map_nil, hs, hx, hrun]
    exact h v' w' (by unfold Elt.Own; rw [el, gflat_app]; exact h2) h3 h5
/-- A slice of one built, at the operation. -/
theorem gwp_bs {P : Program} {ts : TypeId} (T : EltT P E ts te) {w : World} {o : Oper} {a : Act} {K : Act → World → Prop} {Q : Exit → Act → World → Prop} {x : Operand} (ho : o.op = .buildSlice ts 1 #[(0, x)]) {s : α} (hx : a.eval x = .agg (E.cells s).toArray)
    (hf : ∀ z : Value, z.cells.size = E.N → Instr.fill (fun i => some (i * E.N, E.N)) ((Array.range (1 * E.N)).map (z.cells[· % z.cells.size]!)) [(0, .agg (E.cells s).toArray)] = some (E.cells s).toArray)
    (h : K (a.put o.dst (.slice (some ⟨w.heap.size, 0, none⟩) 1 1)) (w.alloc (.cells (E.cells s).toArray te))) (hN : E.N ≤ 100000) : o.wp P a w K Q := by
  obtain ⟨z, by', hi, hzs, _⟩ := T.info
  obtain ⟨ie, h1, h2, h3, _⟩ := info_parts hi
  refine wp_buildSlice ts te 1 #[(0, x)] ho (E.cells s).toArray ie z T.und h1 h2 (by rw [h3, Nat.one_mul]; have e : 2 ^ 24 = 16777216 := rfl; rw [e]; omega) (by rw [h3]; have := E.pos; omega) ?_ h
  rw [h3, show ((#[(0, x)] : Array (Nat × Operand)).map fun (i, x) => (i, a.eval x)).toList = [(0, a.eval x)] from by simp, hx]
  exact hf z hzs
theorem below_row0 {base : Nat} {w W : World} {g : Nat} {cs : Array Value} (b : Below base w W) (h : base ≤ g) : Below base w (W.setRow g cs) :=
  ⟨b.os, b.tape, b.output, by
    have := b.size
    show w.heap.size ≤ (W.heap.modify g _).size
    rw [Array.size_modify]; exact this, fun i hi => (setRow_other W g i cs (by omega)).trans (b.block i hi)⟩
theorem fr_row {S : Nat → Prop} {W : World} {g : Nat} (h : S g) (cs : Array Value) : Fr S W (W.setRow g cs) :=
  ⟨below_row0 (Below.refl 0 W) (Nat.zero_le _), fun i _ hn => setRow_other W g i cs (fun e => hn (e ▸ h))⟩
/-- A struct in a block of its own. -/
def Elt.Bx (E : Elt α) (te : TypeId) (w : World) (g : Nat) (x : α) : Prop := w.heap[g]? = some (.cells (E.cells x).toArray te (0, 0))
theorem gbx_new (w : World) (x : α) : E.Bx te (w.alloc (.cells (E.cells x).toArray te)) w.heap.size x := heap_alloc_new w _
theorem gbx_cell {g : Nat} {x : α} (h : E.Bx te w g x) (j : Nat) : w.cell? ⟨g, j, none⟩ = (E.cells x)[j]? := by rw [cell_of_row _ _ _ _ _ _ h]; simp
theorem gbx_rng {g : Nat} {x : α} (h : E.Bx te w g x) : w.rangeAt g 0 (E.cells x) := fun j u hj => by rw [Nat.zero_add, gbx_cell h, hj]
theorem gbx_rd {g : Nat} {x : α} (h : E.Bx te w g x) : E.Rd w (some ⟨g, 0, none⟩) 1 [x] := ⟨rfl, (fun h => by cases h), fun _ a e => by cases e; exact ⟨rfl, by rw [gflat_one]; exact gbx_rng h⟩⟩
theorem gbx_below {g : Nat} {x : α} (h : E.Bx te w g x) (q : Below w.heap.size w W) : E.Bx te W g x := (q.block g (Array.getElem?_eq_some_iff.1 h).1).trans h
theorem gbx_set {g : Nat} {x y : α} (h : E.Bx te w g y) : E.Bx te (w.setRow g (E.cells x).toArray) g x := setRow_heap w g _ _ _ _ h
theorem gbx_fz {g : Nat} {x : α} (h : E.Bx te w g x) (j : Nat) : w.frozen? ⟨g, j, none⟩ = false := by simp [World.frozen?, show w.heap[g]? = _ from h]
theorem gbx_put {g : Nat} {x y : α} (h : E.Bx te w g x) {i : Nat} {u : Value} (e : E.cells y = (E.cells x).set i u) : E.Bx te (w.setCell ⟨g, i, none⟩ u) g y := by
  unfold Elt.Bx
  rw [heap_setCell_same w g i _ _ u h, e, List.setIfInBounds_toArray]
section
variable {P : Program} {ts : TypeId} {ops : Array Oper} {rest : List Oper} {a : Act} {Q : Exit → Act → World → Prop} {d : Option Nat} {x y : Operand} {ty : TypeId} {ps : String} {af : Array Edge} {gd : Option (Nat × Bool)}
theorem gsize (T : EltT P E ts te) : (P.info? te).map (fun i => i.size) = some E.N := by
  obtain ⟨z, by', hi, _, _⟩ := T.info
  obtain ⟨i0, hi0, _, hz1, _⟩ := info_parts hi
  rw [hi0]; simp [hz1]
/-- A whole struct loaded, guarded or not; stored. -/
theorem gwl_load (T : EltT P E ts te) {s : α} (b o : Nat) (hb : w.rangeAt b o (E.cells s))
    (hw : Region.wanted ⟨d, .load te x, ty, ps, af, gd⟩ (yielded ops a.tmps) = true) (hx : a.eval x = .pointer (some ⟨b, o, none⟩)) (h : wpList P ops Q rest (a.put d (.agg (E.cells s).toArray)) w) : wpList P ops Q (⟨d, .load te x, ty, ps, af, gd⟩ :: rest) a w := by
  obtain ⟨fs, hu⟩ := T.row
  exact BigFrame.wpList_want hw fun _ hK => wp_load_mid te x rfl b o hx (E.cells s) _ hb hu rfl (by rw [gsize T, E.len]) (hK _ _ h)
theorem gyields_load (T : EltT P E ts te) {S : World → Prop} {o : Oper} {a : Act} (hw : Region.wanted o (yielded ops a.tmps) = true) (x : Operand) (ho : o.op = .load te x) (b k : Nat) (hx : a.eval x = .pointer (some ⟨b, k, none⟩)) {s : α} (hS : ∀ w, S w → w.rangeAt b k (E.cells s)) :
    YieldsIf P ops S o (.agg (E.cells s).toArray) a := by
  obtain ⟨fs, hu⟩ := T.row
  exact yieldsIf_load_mid hw te x ho b k hx (E.cells s) _ hS hu rfl (by rw [gsize T, E.len])
theorem gall_one (s : α) : ((E.cells s).toArray.all fun v => v.oneCell') = true := by
  rw [Array.all_eq_true_iff_forall_mem]
  intro v hv
  exact E.one s v (by simpa using hv)
theorem gwl_store (T : EltT P E ts te) (s : α) {t : α} (g : Nat) (hb : E.Bx te w g t) (hx : a.eval x = .pointer (some ⟨g, 0, none⟩)) (hy : a.eval y = .agg (E.cells s).toArray)
    (h : wpList P ops Q rest (a.put d undef) (w.setRow g (E.cells s).toArray)) : wpList P ops Q (⟨d, .store te x y, ty, ps, af, none⟩ :: rest) a w :=
  wpList_store_row rfl te x y rfl g (E.cells s).toArray hx hy te (E.cells t).toArray hb (by rw [gsize T, List.size_toArray, E.len]) (by rw [List.size_toArray, List.size_toArray, E.len, E.len]) (gall_one s) h
/-- A slice of one built. -/
theorem gwl_bs (T : EltT P E ts te) {s : α} (hx : a.eval x = .agg (E.cells s).toArray)
    (hf : ∀ z : Value, z.cells.size = E.N → Instr.fill (fun i => some (i * E.N, E.N)) ((Array.range (1 * E.N)).map (z.cells[· % z.cells.size]!)) [(0, .agg (E.cells s).toArray)] = some (E.cells s).toArray)
    (h : wpList P ops Q rest (a.put d (.slice (some ⟨w.heap.size, 0, none⟩) 1 1)) (w.alloc (.cells (E.cells s).toArray te))) (hN : E.N ≤ 100000) :
    wpList P ops Q ({ dst := d, op := .buildSlice ts 1 #[(0, x)], type := ty, pos := ps, after := af, guard := none } :: rest) a w := by
  obtain ⟨z, by', hi, hzs, _⟩ := T.info
  obtain ⟨ie, h1, h2, h3, _⟩ := info_parts hi
  refine wpList_buildSlice rfl ts te 1 #[(0, x)] rfl (E.cells s).toArray ie z T.und h1 h2 (by rw [h3, Nat.one_mul]; have e : 2 ^ 24 = 16777216 := rfl; rw [e]; omega) (by rw [h3]; have := E.pos; omega) ?_ h
  rw [h3, show ((#[(0, x)] : Array (Nat × Operand)).map fun (i, x) => (i, a.eval x)).toList = [(0, a.eval x)] from by simp, hx]
  exact hf z hzs
/-- Results: a struct in a block, and a value. -/
theorem gret (T : EltT P E ts te) {fn : Func} {p u : Tmp} (h : fn.results = #[.cell p te, .tmp u]) (tmps : Array Value) (w : World) (g : Nat) {s : α} {v : Value} (hp : tmps.getD p undef = .pointer (some ⟨g, 0, none⟩)) (hv : tmps.getD u undef = v) (hb : E.Bx te w g s) :
    (results fn tmps).run P w = .ok (.tuple #[.agg (E.cells s).toArray, v]) w := by
  obtain ⟨fs, hu⟩ := T.row
  rw [results_cell_tmp h]
  simp [hp, hv, asAddr, run_loadVar_row w g te te (E.cells s).toArray (0, 0) _ hb hu rfl (by rw [gsize T, List.size_toArray, E.len])]
/-- The zero struct built. -/
theorem gwl_build0 {z : α} (hz : P.built te [] = some (E.cells z).toArray) (h : wpList P ops Q rest (a.put d (.agg (E.cells z).toArray)) w) :
    wpList P ops Q ({ dst := d, op := .build te #[], type := ty, pos := ps, after := af, guard := none } :: rest) a w := by
  have e : ∀ f : (Nat × Operand) → (Nat × Value), (Array.map f #[]).toList = [] := fun f => by simp
  refine wpList_build rfl te #[] rfl (by rw [e, hz]; rfl) ?_
  rw [e, hz]
  exact h
end
end
end Go.Proofs.Ytdcjgcjnfcahkaa
/- Orders as cells; what a side answers, and its orders behind a call; plain facts. -/
namespace Go.Proofs.Ytdcjgcjnfcahkaa
open Go.RowKit

def I64' (x : Int) : Prop := -9223372036854775808 ≤ x ∧ x ≤ 9223372036854775807
/-- An order. -/
structure Or where
  nu : Int
  ac : Int
  bu : Bool
  pr : Int
  le : Int
structure Or.ok (o : Or) : Prop where
  nu : 0 ≤ o.nu ∧ o.nu ≤ 18446744073709551615
  ac : 0 ≤ o.ac ∧ o.ac ≤ 4294967295
  pr : I64' o.pr
  le : I64' o.le
def Or.cells (o : Or) : List Value := [.int .u64 o.nu, .int .u32 o.ac, .bool o.bu, .int .i64 o.pr, .int .i64 o.le]
/-- Orders are structs of five cells. -/
def EO : Elt Or := ⟨Or.cells, 5, by decide, fun _ => rfl, fun x u hu => by
  simp only [Or.cells, List.mem_cons, List.not_mem_nil, or_false] at hu
  rcases hu with rfl | rfl | rfl | rfl | rfl <;> rfl⟩
def zeroOr : Or := ⟨0, 0, false, 0, 0⟩
theorem zeroOr_ok : zeroOr.ok := by constructor <;> simp [zeroOr, I64']
theorem TO : EltT Try.prog EO 35 31 := ⟨Try.underlying35, ⟨_, Try.underlying31⟩, ⟨.agg (EO.cells zeroOr).toArray, 32, by kernel_rfl, rfl, by decide⟩⟩
theorem Or.set4 (o : Or) (n : Int) : (Or.mk o.nu o.ac o.bu o.pr n).cells = o.cells.set 4 (.int .i64 n) := rfl

/-- May be. -/
def mayO (o : Or) : Bool := decide (0 < o.nu) && decide (0 < o.ac) && decide (0 < o.pr) && decide (o.pr ≤ 10000000) && decide (0 < o.le) && decide (o.le ≤ 1000000)
/-- Better, of two prices. -/
def btr (buy : Bool) (a b : Int) : Bool := (buy && decide (b < a)) || (!buy && decide (a < b))
theorem btr_irr (buy : Bool) (a : Int) : btr buy a a = false := by cases buy <;> simp [btr]
theorem btr_tr {buy : Bool} {a b c : Int} (h : btr buy a b = true) (k : btr buy c b = false) : btr buy a c = true := by
  cases buy <;> simp [btr] at h k ⊢ <;> omega
theorem btr_tot {buy : Bool} {a b : Int} (h : btr buy a b = false) (k : btr buy b a = false) : a = b := by
  cases buy <;> simp [btr] at h k <;> omega
theorem btr_tr' {buy : Bool} {a b c : Int} (h : btr buy b a = false) (k : btr buy c b = false) : btr buy c a = false := by
  cases buy <;> simp [btr] at h k ⊢ <;> omega
theorem btr_as {buy : Bool} {a b : Int} (h : btr buy a b = true) : btr buy b a = false := by
  cases buy <;> simp [btr] at h ⊢ <;> omega
/-- An order comes: behind all that are better or as good. -/
def insO (buy : Bool) (o : Or) : List Or → List Or
  | [] => [o]
  | x :: r => if btr buy o.pr x.pr then o :: x :: r else x :: insO buy o r
/-- In the order of a side, out of the order in which they came. -/
def sortO (buy : Bool) (l : List Or) : List Or := l.foldl (fun s o => insO buy o s) []
theorem sort_snoc (buy : Bool) (l : List Or) (o : Or) : sortO buy (l ++ [o]) = insO buy o (sortO buy l) := by simp [sortO]
theorem ins_mem {buy : Bool} {o x : Or} : ∀ {l : List Or}, x ∈ insO buy o l ↔ x = o ∨ x ∈ l
  | [] => by simp [insO]
  | y :: r => by
    unfold insO
    split
    · simp
    · rw [List.mem_cons, ins_mem, List.mem_cons]
      constructor
      · rintro (h | h | h)
        · exact .inr (.inl h)
        · exact .inl h
        · exact .inr (.inr h)
      · rintro (h | h | h)
        · exact .inr (.inl h)
        · exact .inl h
        · exact .inr (.inr h)
theorem insO_len (buy : Bool) (o : Or) : ∀ l : List Or, (insO buy o l).length = l.length + 1
  | [] => rfl
  | y :: r => by
    unfold insO
    split
    · rfl
    · rw [List.length_cons, insO_len buy o r, List.length_cons]
theorem snoc_ind {α : Type} {P : List α → Prop} (h0 : P []) (h1 : ∀ l x, P l → P (l ++ [x])) (l : List α) : P l := by
  have key : ∀ r : List α, P r.reverse := by
    intro r
    induction r with
    | nil => exact h0
    | cons x r ih => rw [List.reverse_cons]; exact h1 _ x ih
  have := key l.reverse
  rwa [List.reverse_reverse] at this
theorem sort_len (buy : Bool) (l : List Or) : (sortO buy l).length = l.length := by
  refine snoc_ind (P := fun l => (sortO buy l).length = l.length) rfl (fun l o ih => ?_) l
  rw [sort_snoc, insO_len, ih, List.length_append]; rfl
theorem sort_mem {buy : Bool} {x : Or} {l : List Or} : x ∈ sortO buy l ↔ x ∈ l := by
  refine snoc_ind (P := fun l => x ∈ sortO buy l ↔ x ∈ l) Iff.rfl (fun l o ih => ?_) l
  rw [sort_snoc, ins_mem, ih, List.mem_append, List.mem_singleton]
  exact ⟨fun h => h.elim .inr .inl, fun h => h.elim .inr .inl⟩
end Go.Proofs.Ytdcjgcjnfcahkaa
/- The order of a side: sorted as they come is the first one, then the first one of those that are left; what is taken out, what has less left; plain facts. -/
namespace Go.Proofs.Ytdcjgcjnfcahkaa

def prOf (l : List Or) (j : Int) : Int := match l[j.toNat]? with | some y => y.pr | none => 0
/-- The place of the first among the first n: -1, or its place. -/
def fstO (buy : Bool) (l : List Or) : Nat → Int
  | 0 => -1
  | n + 1 => match l[n]? with
    | none => fstO buy l n
    | some x => if fstO buy l n < 0 ∨ btr buy x.pr (prOf l (fstO buy l n)) = true then n else fstO buy l n
theorem fst_range (buy : Bool) (l : List Or) : ∀ n, n ≤ l.length → (n = 0 ∧ fstO buy l n = -1) ∨ ∃ (k : Nat) (x : Or), fstO buy l n = k ∧ k < n ∧ l[k]? = some x
  | 0, _ => .inl ⟨rfl, rfl⟩
  | n + 1, hn => by
    have hx : l[n]? = some l[n] := List.getElem?_eq_getElem (by omega)
    right
    unfold fstO
    simp only [hx]
    split
    · exact ⟨n, _, rfl, by omega, hx⟩
    · rename_i c
      rcases fst_range buy l n (by omega) with ⟨h0, h1⟩ | ⟨k, x, h1, h2, h3⟩
      · exact absurd (.inl (by omega)) c
      · exact ⟨k, x, h1, by omega, h3⟩
theorem fst_app (buy : Bool) (l m : List Or) : ∀ n, n ≤ l.length → fstO buy (l ++ m) n = fstO buy l n
  | 0, _ => rfl
  | n + 1, hn => by
    have ih := fst_app buy l m n (by omega)
    unfold fstO
    rw [ih, List.getElem?_append_left (by omega)]
    have e : prOf (l ++ m) (fstO buy l n) = prOf l (fstO buy l n) ∨ fstO buy l n < 0 := by
      rcases fst_range buy l n (by omega) with ⟨_, h1⟩ | ⟨k, x, h1, h2, h3⟩
      · exact .inr (by omega)
      · left
        rw [h1]
        unfold prOf
        rw [Int.toNat_natCast, List.getElem?_append_left (by omega)]
    rcases e with e | e
    · rw [e]
    · cases l[n]? with
      | none => rfl
      | some x => simp only; rw [if_pos (.inl e), if_pos (.inl e)]
/-- Selected is inserted. -/
theorem sort_sel (buy : Bool) (l : List Or) : l ≠ [] → ∃ (k : Nat) (x : Or), fstO buy l l.length = k ∧ l[k]? = some x ∧ sortO buy l = x :: sortO buy (l.eraseIdx k) := by
  refine snoc_ind (P := fun l => l ≠ [] → ∃ (k : Nat) (x : Or), fstO buy l l.length = k ∧ l[k]? = some x ∧ sortO buy l = x :: sortO buy (l.eraseIdx k)) (fun h => absurd rfl h) (fun l o ih _ => ?_) l
  have hlen : (l ++ [o]).length = l.length + 1 := by simp
  have hlast : (l ++ [o])[l.length]? = some o := by simp
  have hf : fstO buy (l ++ [o]) l.length = fstO buy l l.length := fst_app buy l [o] l.length (Nat.le_refl _)
  rw [hlen]
  unfold fstO
  simp only [hlast, hf]
  by_cases hn : l = []
  · subst hn
    exact ⟨0, o, by simp [fstO], rfl, by simp [sortO, insO]⟩
  · obtain ⟨k, x, h1, h2, h3⟩ := ih hn
    have hk := (List.getElem?_eq_some_iff.1 h2).1
    have hp : prOf (l ++ [o]) (fstO buy l l.length) = x.pr := by
      rw [h1]; unfold prOf
      rw [Int.toNat_natCast, List.getElem?_append_left hk, h2]
    rw [hp]
    rw [sort_snoc, h3]
    cases hb : btr buy o.pr x.pr
    · refine ⟨k, x, ?_, ?_, ?_⟩
      · rw [if_neg (by rw [h1]; exact fun c => c.elim (fun c => by omega) (fun c => by cases c))]; exact h1
      · rw [List.getElem?_append_left hk]; exact h2
      · unfold insO
        rw [hb, if_neg (by decide), List.eraseIdx_append_of_lt_length hk, sort_snoc]
    · refine ⟨l.length, o, by rw [if_pos (.inr rfl)], hlast, ?_⟩
      unfold insO
      rw [hb, if_pos rfl, List.eraseIdx_append_of_length_le (Nat.le_refl _)]
      simp [h3]
/-- Sorted. -/
def Srt (buy : Bool) (l : List Or) : Prop := l.Pairwise fun x y => btr buy y.pr x.pr = false
theorem ins_srt {buy : Bool} {o : Or} : ∀ {l : List Or}, Srt buy l → Srt buy (insO buy o l)
  | [], _ => by unfold insO Srt; simp
  | x :: r, h => by
    obtain ⟨h1, h2⟩ := List.pairwise_cons.1 h
    unfold insO
    cases hb : btr buy o.pr x.pr
    · rw [if_neg (by decide)]
      refine List.pairwise_cons.2 ⟨fun y hy => ?_, ins_srt h2⟩
      rcases ins_mem.1 hy with rfl | hy
      · exact hb
      · exact h1 y hy
    · rw [if_pos rfl]
      refine List.pairwise_cons.2 ⟨fun y hy => ?_, h⟩
      rcases List.mem_cons.1 hy with rfl | hy
      · exact btr_as hb
      · exact btr_as (btr_tr hb (h1 y hy))
theorem sort_srt (buy : Bool) (l : List Or) : Srt buy (sortO buy l) := by
  refine snoc_ind (P := fun l => Srt buy (sortO buy l)) List.Pairwise.nil (fun l o ih => ?_) l
  rw [sort_snoc]
  exact ins_srt ih
/-- An order that is better than all comes first. -/
theorem ins_first {buy : Bool} {o : Or} : ∀ {l : List Or}, (∀ y, y ∈ l → btr buy o.pr y.pr = true) → insO buy o l = o :: l
  | [], _ => rfl
  | x :: r, h => by unfold insO; rw [if_pos (h x (by simp))]
theorem ins_yes {buy : Bool} {o x : Or} {r : List Or} (h : btr buy o.pr x.pr = true) : insO buy o (x :: r) = o :: x :: r := by rw [insO, if_pos h]
theorem ins_no {buy : Bool} {o x : Or} {r : List Or} (h : btr buy o.pr x.pr = false) : insO buy o (x :: r) = x :: insO buy o r := by rw [insO, h, if_neg (by decide)]
theorem ins_filter {buy : Bool} {o : Or} (p : Or → Bool) : ∀ {l : List Or}, Srt buy l → (insO buy o l).filter p = if p o then insO buy o (l.filter p) else l.filter p
  | [], _ => by cases h : p o <;> simp [h, insO]
  | x :: r, h => by
    obtain ⟨h1, h2⟩ := List.pairwise_cons.1 h
    have ih := ins_filter (o := o) p h2
    cases hb : btr buy o.pr x.pr
    · rw [ins_no hb, List.filter_cons, ih, List.filter_cons]
      cases hx : p x <;> cases ho : p o <;> simp [ins_no hb]
    · rw [ins_yes hb, List.filter_cons]
      cases ho : p o
      · simp
      · rw [if_pos rfl, if_pos rfl]
        rw [ins_first fun y hy => ?_]
        have hm := (List.mem_filter.1 hy).1
        rcases List.mem_cons.1 hm with rfl | hm
        · exact hb
        · exact btr_tr hb (h1 y hm)
theorem sort_filter (buy : Bool) (p : Or → Bool) (l : List Or) : sortO buy (l.filter p) = (sortO buy l).filter p := by
  refine snoc_ind (P := fun l => sortO buy (l.filter p) = (sortO buy l).filter p) rfl (fun l o ih => ?_) l
  rw [sort_snoc, ins_filter p (sort_srt buy l), List.filter_append, List.filter_cons, List.filter_nil, ← ih]
  cases ho : p o
  · simp
  · rw [if_pos rfl, if_pos rfl, sort_snoc]
theorem ins_map {buy : Bool} {o : Or} (f : Or → Or) (hf : ∀ x, (f x).pr = x.pr) : ∀ l : List Or, (insO buy o l).map f = insO buy (f o) (l.map f)
  | [] => rfl
  | x :: r => by
    unfold insO
    simp only [hf, List.map_cons]
    split
    · simp
    · rw [List.map_cons, ins_map f hf r]
theorem sort_map (buy : Bool) (f : Or → Or) (hf : ∀ x, (f x).pr = x.pr) (l : List Or) : sortO buy (l.map f) = (sortO buy l).map f := by
  refine snoc_ind (P := fun l => sortO buy (l.map f) = (sortO buy l).map f) rfl (fun l o ih => ?_) l
  rw [List.map_append, List.map_cons, List.map_nil, sort_snoc, sort_snoc, ih, ins_map f hf]
/-- What all of them come to. -/
theorem ins_sum {buy : Bool} {o : Or} (f : Or → Int) : ∀ l : List Or, ((insO buy o l).map f).sum = f o + (l.map f).sum
  | [] => by simp [insO]
  | x :: r => by
    unfold insO
    split
    · simp
    · rw [List.map_cons, List.sum_cons, ins_sum f r, List.map_cons, List.sum_cons]; omega
theorem sort_sum (buy : Bool) (f : Or → Int) (l : List Or) : ((sortO buy l).map f).sum = (l.map f).sum := by
  refine snoc_ind (P := fun l => ((sortO buy l).map f).sum = (l.map f).sum) rfl (fun l o ih => ?_) l
  rw [sort_snoc, ins_sum, ih, List.map_append, List.sum_append]
  simp; omega
/-- Numbers differ. -/
def Dis (l : List Or) : Prop := l.Pairwise fun x y => x.nu ≠ y.nu
theorem dis_erase : ∀ {l : List Or} {k : Nat} {x : Or}, Dis l → l[k]? = some x → l.eraseIdx k = l.filter fun y => y.nu != x.nu
  | [], k, x, _, h => by simp at h
  | y :: r, 0, x, h, hk => by
    obtain rfl : y = x := by simpa using hk
    obtain ⟨h1, _⟩ := List.pairwise_cons.1 h
    rw [List.filter_cons, if_neg (by simp), List.eraseIdx_cons_zero]
    exact (List.filter_eq_self.2 fun z hz => by have := h1 z hz; simp; exact fun e => this e.symm).symm
  | y :: r, k + 1, x, h, hk => by
    obtain ⟨h1, h2⟩ := List.pairwise_cons.1 h
    have hk' : r[k]? = some x := by simpa using hk
    have := h1 x (List.mem_of_getElem? hk')
    rw [List.eraseIdx_cons_succ, dis_erase h2 hk', List.filter_cons, if_pos (by simp; exact this)]
theorem dis_set : ∀ {l : List Or} {k : Nat} {x y : Or}, Dis l → l[k]? = some x → y.nu = x.nu → l.set k y = l.map fun z => if z.nu = x.nu then y else z
  | [], k, x, y, _, h, _ => by simp at h
  | z :: r, 0, x, y, h, hk, e => by
    obtain rfl : z = x := by simpa using hk
    obtain ⟨h1, _⟩ := List.pairwise_cons.1 h
    rw [List.set_cons_zero, List.map_cons, if_pos rfl]
    congr 1
    refine (List.map_congr_left (g := id) fun w hw => ?_).trans (List.map_id r) |>.symm
    rw [if_neg fun e => h1 w hw e.symm]
    rfl
  | z :: r, k + 1, x, y, h, hk, e => by
    obtain ⟨h1, h2⟩ := List.pairwise_cons.1 h
    have hk' : r[k]? = some x := by simpa using hk
    have := h1 x (List.mem_of_getElem? hk')
    rw [List.set_cons_succ, dis_set h2 hk' e, List.map_cons, if_neg this]
theorem dis_snoc {l : List Or} {o : Or} (h : Dis l) (hn : ∀ x, x ∈ l → x.nu ≠ o.nu) : Dis (l ++ [o]) :=
  List.pairwise_append.2 ⟨h, List.pairwise_singleton _ _, fun x hx y hy => by rw [List.mem_singleton.1 hy]; exact hn x hx⟩
theorem dis_filter {l : List Or} (p : Or → Bool) (h : Dis l) : Dis (l.filter p) := h.filter p
theorem dis_map {l : List Or} (f : Or → Or) (hf : ∀ x, (f x).nu = x.nu) (h : Dis l) : Dis (l.map f) := by
  refine List.pairwise_map.2 (h.imp fun {a b} hab => ?_)
  rw [hf, hf]; exact hab
end Go.Proofs.Ytdcjgcjnfcahkaa
/- Contracts of the document's plain side: May, Better. -/
namespace Go.Proofs.Ytdcjgcjnfcahkaa
open Go.RowKit
set_option linter.unusedVariables false

theorem obx (w : World) (o : Or) : EO.Bx 31 (w.alloc (.cells (EO.cells o).toArray 31)) w.heap.size o := gbx_new w o
set_option maxRecDepth 100000 in
set_option maxHeartbeats 1000000 in
theorem rmay_o (o : Or) (w : World) (ok : o.ok) : Calls Try.prog 54 #[.agg (EO.cells o).toArray] w fun e w' => e = .returned (.bool (mayO o)) ∧ Below w.heap.size w w' := by
  have c0 := gbx_cell (obx w o) 0
  have c1 := gbx_cell (obx w o) 1
  have c3 := gbx_cell (obx w o) 3
  have c4 := gbx_cell (obx w o) 4
  have B := Lib.hid (below_new w (.cells (EO.cells o).toArray 31))
  have e0 : (EO.cells o)[0]? = some (.int .u64 o.nu) := rfl
  have e1 : (EO.cells o)[1]? = some (.int .u32 o.ac) := rfl
  have e3 : (EO.cells o)[3]? = some (.int .i64 o.pr) := rfl
  have e4 : (EO.cells o)[4]? = some (.int .i64 o.le) := rfl
  rw [e0] at c0; rw [e1] at c1; rw [e3] at c3; rw [e4] at c4
  clear e0 e1 e3 e4
  unfold mayO
  generalize o.nu = nu at *
  generalize o.ac = ac at *
  generalize o.pr = pr at *
  generalize o.le = le at *
  generalize EO.cells o = cc at *
  clear ok
  cases h1 : decide (0 < nu)
  case' true =>
    cases h2 : decide (0 < ac)
    case' true =>
      cases h3 : decide (0 < pr)
      case' true =>
        cases h4 : decide (pr ≤ 10000000)
        case' true =>
          cases h5 : decide (0 < le)
          case' true => cases h6 : decide (le ≤ 1000000)
  all_goals
    go_enter Try.func54, Try.ntmps54
    go_wp2_with fail
    go_ret
    exact ⟨rfl, B.out⟩
set_option maxRecDepth 100000 in
theorem rbtr_any (buy : Bool) (a b : Int) (w : World) : Calls Try.prog 77 #[.bool buy, .int .i64 a, .int .i64 b] w fun e w' => e = .returned (.bool (btr buy a b)) ∧ w = w' := by
  unfold btr
  cases buy
  · cases h : decide (a < b)
    all_goals
      go_enter Try.func77, Try.ntmps77
      go_wp2_with fail
      go_ret
      exact ⟨rfl, rfl⟩
  · cases h : decide (b < a)
    all_goals
      go_enter Try.func77, Try.ntmps77
      go_wp2_with fail
      go_ret
      exact ⟨rfl, rfl⟩
end Go.Proofs.Ytdcjgcjnfcahkaa
