/- Texts of a proof, laid together: Fr, Sa, Elr, Qd, Qo, By. -/
import Derived.WalkKit
import Derived.Lib.Hide
import Derived.Lib.Walk
import Derived.Deep.AppendLies
import Derived.Deep.MidRow
import Derived.BigQuiet
import Derived.WalkSmall
import Derived.RangeFuncKeeps
import Derived.RangeFuncNested
import Derived.OwnWalkIn
import Derived.TacticsInMore
import Derived.LoopNIn
import Derived.LoopIn
import Derived.Test.YtbmlpokkojhhjaaGreatProg
import Derived.Maps.AppendAt
import Derived.Laws.AppendOwnNone
import Derived.Laws.Tables
import Derived.Laws.Rows
import Derived.Laws.ResultCell
import Derived.Great.BuildSlice
import Derived.BigFrame
import Derived.OrdersHeld
import Derived.RegionTactic
import Derived.OpenShut
import Derived.ProofKit
import Derived.Laws.BytesArg
/- Frames: which blocks, which cells have turned; no program's function, no program's type. -/
namespace Go.Proofs.YtbmlpokkojhhjaaGreat
open Go.RowKit
set_option linter.unusedVariables false

/-- Only blocks of S, and new ones, have turned. -/
structure Fr (S : Nat → Prop) (W W' : World) : Prop where
  b0 : Below 0 W W'
  at' : ∀ k, k < W.heap.size → ¬ S k → W'.heap[k]? = W.heap[k]?
theorem Fr.refl (S : Nat → Prop) (W : World) : Fr S W W := ⟨Below.refl 0 W, fun _ _ _ => rfl⟩
theorem Fr.trans {S T U : Nat → Prop} {a b c : World} (h : Fr S a b) (k : Fr T b c) (hS : ∀ k, S k → U k) (hT : ∀ k, k < a.heap.size → T k → U k) : Fr U a c :=
  ⟨h.b0.trans k.b0, fun i hi hn => (k.at' i (Nat.lt_of_lt_of_le hi h.b0.size) fun ht => hn (hT i hi ht)).trans (h.at' i hi fun hs => hn (hS i hs))⟩
theorem Fr.same {S : Nat → Prop} {a b c : World} (h : Fr S a b) (k : Fr S b c) : Fr S a c := h.trans k (fun _ h => h) (fun _ _ h => h)
theorem Fr.mono {S T : Nat → Prop} {a b : World} (h : Fr S a b) (hS : ∀ k, S k → T k) : Fr T a b := ⟨h.b0, fun i hi hn => h.at' i hi fun hs => hn (hS i hs)⟩
theorem Fr.below {S : Nat → Prop} {a b : World} (h : Below a.heap.size a b) : Fr S a b := ⟨h.mono (Nat.zero_le _), fun i hi _ => h.block i hi⟩
theorem Fr.set {S : Nat → Prop} {W : World} {p : Addr} (hp : S p.block) (u : Value) : Fr S W (W.setCell p u) :=
  ⟨(Below.refl 0 W).setCell (Nat.zero_le _) u, fun i _ hn => heap_setCell_other W p i u fun e => hn (e ▸ hp)⟩
theorem Fr.grown {S : Nat → Prop} {W W' : World} {row : Option Nat} (h : W.grownBy W' row) (hS : ∀ k, row = some k → S k) : Fr S W W' :=
  ⟨(Below.refl 0 W).grown h (Nat.zero_le _) (fun _ _ => Nat.zero_le _), fun i hi hn => h.block i hi fun e => hn (hS i e.symm)⟩
theorem Fr.size {S : Nat → Prop} {a b : World} (h : Fr S a b) : a.heap.size ≤ b.heap.size := h.b0.size

theorem Fr.drewN {S : Nat → Prop} {a b : World} (h : Fr S a b) (n : Nat) : Fr S a (b.drewN n) := ⟨below_drewN h.b0 n, h.at'⟩
theorem Fr.out {w W : World} (h : Fr (fun _ => False) w W) : Below w.heap.size w W := ⟨h.b0.os, h.b0.tape, h.b0.output, h.b0.size, fun k hk => h.at' k hk id⟩
/-- What a round may turn: of the cells that are there those of S alone (S hangs on the world: a list that grows lies elsewhere then); what is new is its own. -/
def Kc (S : World → Nat → Prop) (A B : World) : Prop :=
  (∀ k, S A k → k < A.heap.size) → (∀ k, S B k → k < B.heap.size) ∧ (∀ k, S B k → S A k ∨ A.heap.size ≤ k) ∧ Below 0 A B ∧ ∀ k, k < A.heap.size → ¬ S A k → (∃ cs t f, A.heap[k]? = some (.cells cs t f)) → B.heap[k]? = A.heap[k]?
theorem Kc.trans {S : World → Nat → Prop} {A B C : World} (h : Kc S A B) (k : Kc S B C) : Kc S A C := fun wf => by
  obtain ⟨h1, h2, h3, h4⟩ := h wf
  obtain ⟨k1, k2, k3, k4⟩ := k h1
  refine ⟨k1, fun j hj => ?_, h3.trans k3, fun j hj hn hc => ?_⟩
  · rcases k2 j hj with c | c
    · exact h2 j c
    · exact .inr (Nat.le_trans h3.size c)
  · have e := h4 j hj hn hc
    refine (k4 j (Nat.lt_of_lt_of_le hj h3.size) (fun c => ?_) (by rw [e]; exact hc)).trans e
    rcases h2 j c with c | c
    · exact hn c
    · omega
/-- S is told by blocks below N. -/
def Still (S : World → Nat → Prop) (N : Nat) : Prop := ∀ A B : World, N ≤ A.heap.size → (∀ k, k < N → B.heap[k]? = A.heap[k]?) → ∀ k, S B k → S A k
theorem Still.const (S : Nat → Prop) (N : Nat) : Still (fun _ => S) N := fun _ _ _ _ _ h => h
theorem Kc.below {S : World → Nat → Prop} {N : Nat} (st : Still S N) {A B : World} (hN : N ≤ A.heap.size) (q : Below A.heap.size A B) : Kc S A B := fun wf =>
  have s := st A B hN (fun k hk => q.block k (by omega))
  ⟨fun k h => Nat.lt_of_lt_of_le (wf k (s k h)) q.size, fun k h => .inl (s k h), q.mono (Nat.zero_le _), fun k hk _ _ => q.block k hk⟩
theorem Kc.put {S : World → Nat → Prop} {N : Nat} (st : Still S N) {W : World} {l : Nat} {o o' : Obj} (hl : N ≤ l) (ho : W.heap[l]? = some o) (hc : o.isCells = false) : Kc S W (W.putObj l o') := fun wf => by
  have hlt := (Array.getElem?_eq_some_iff.1 ho).1
  have g := grownBy_putObj' W l o'
  have s := st W (W.putObj l o') (by omega) (fun k hk => g.block k (by omega) (fun e => by cases e; omega))
  refine ⟨fun k h => Nat.lt_of_lt_of_le (wf k (s k h)) g.size, fun k h => .inl (s k h), (Below.refl 0 W).grown g (Nat.zero_le _) (fun _ _ => Nat.zero_le _), fun _ hk _ ⟨cs, t, f, e⟩ => g.block _ hk (fun c => ?_)⟩
  cases c
  rw [e] at ho
  cases ho
  cases hc
theorem Kc.fr {S : Nat → Prop} {A B : World} (h : Fr S A B) : Kc (fun _ => S) A B := fun wf => ⟨fun k hk => Nat.lt_of_lt_of_le (wf k hk) h.size, fun k hk => .inl hk, h.b0, fun k hk hn _ => h.at' k hk hn⟩
/-- A variable, and the row that it holds. -/
def Sv (b : Nat) (A : World) (k : Nat) : Prop := k = b ∨ ∃ a n c, A.cell? ⟨b, 0, none⟩ = some (.slice (some a) n c) ∧ a.block = k
theorem Still.var {b N : Nat} (h : b < N) : Still (Sv b) N := fun A B _ hk k hs => by
  refine hs.imp id fun ⟨a, n, c, e, hb⟩ => ⟨a, n, c, ?_, hb⟩
  rw [← e]
  exact (World.cell?_of_block (hk b h)).symm
theorem rng_below {w W : World} {b o B : Nat} {l : List Value} (h : w.rangeAt b o l) (q : Below B w W) (hB : w.heap.size ≤ B) : W.rangeAt b o l := fun j u hj => by
  have hc := h j u hj
  have hb : b < w.heap.size := by
    unfold World.cell? at hc
    rcases Nat.lt_or_ge b w.heap.size with c | c
    · exact c
    · rw [Array.getElem?_eq_none c] at hc
      cases hc
  unfold World.cell? at hc ⊢
  rw [q.block b (by omega)]
  exact hc
theorem cell_below {w W : World} {b o B : Nat} {v : Value} (hc : w.cell? ⟨b, o, none⟩ = some v) (q : Below B w W) (hB : w.heap.size ≤ B) : W.cell? ⟨b, o, none⟩ = some v := by
  have hb : b < w.heap.size := by
    unfold World.cell? at hc
    rcases Nat.lt_or_ge b w.heap.size with c | c
    · exact c
    · rw [Array.getElem?_eq_none c] at hc
      cases hc
  unfold World.cell? at hc ⊢
  rw [q.block b (by omega)]
  exact hc
theorem below_new (w : World) (o : Obj) : Below w.heap.size w (w.alloc o) := (Below.refl w.heap.size w).alloc (Nat.le_refl _) o
section
variable {P : Program} {n : Nat} {ops : Array Oper} {Q : Exit → Act → World → Prop}
theorem rows_wide {row : String} {args : Array Value} {w : World} {R : Value → World → Prop} (h : Rows P row args w R) : RowsIn Fence.wide n P row args w R :=
  fun c cs _ => let ⟨v, w', r, s⟩ := h c cs; ⟨v, w', r, stepsIn_wide.2 s⟩
theorem op_wide {o : Oper} {a : Act} {w : World} {next : Act → World → Prop} (hd : ∀ c, o.op ≠ .defer c) (h : o.wp P a w next Q) : o.wpIn Fence.wide n P a w next Q := by
  refine ⟨fun _ _ => trivial, ?_⟩
  rw [Oper.semAt_plain _ _ _ hd]
  unfold Oper.wp at h
  generalize (execOp a.eval o).run P w = r at h ⊢
  cases r with
  | ok v w' => cases v with
    | value v => exact h
    | skip => exact h
    | defer d => exact h
    | enter f args =>
      refine ⟨fun c => ?_, callsIn_wide.2 (Calls.mono h ?_)⟩
      · cases c
      · intro e w2 q
        cases e <;> exact q
    | row row args =>
      refine ⟨fun c => ?_, rows_wide h⟩
      cases c
    | _ => exact h.elim
  | halt x w' => cases x <;> first | exact h | exact h.elim
end
theorem grown_of {w w' : World} (q : Below w.heap.size w w') : w.grownBy w' none := ⟨q.os, q.tape, q.output, q.size, fun k hk _ => q.block k hk⟩
end Go.Proofs.YtbmlpokkojhhjaaGreat
/- Rows of structs in memory, whatever the struct: made, read, cut, appended to, written; no program's function, no program's type. -/
namespace Go.Proofs.YtbmlpokkojhhjaaGreat
open Go.RowKit
set_option linter.unusedVariables false

/-- A struct: its cells; each has N of them, each one cell. -/
structure Elt (α : Type) where
  cells : α → List Value
  N : Nat
  pos : 0 < N
  len : ∀ x, (cells x).length = N
  one : ∀ x, ∀ u ∈ cells x, u.oneCell' = true
/-- What a program says of its type te, and of the slices ts of it. -/
structure EltT {α : Type} (P : Program) (E : Elt α) (ts te : TypeId) : Prop where
  und : P.underlying ts = some (.slice te)
  row : ∃ fs, P.underlying te = some (.struct fs)
  info : ∃ z by', (P.info? te).map (fun i => (i.zero, i.size, i.bytes)) = some (some z, E.N, by') ∧ z.cells.size = E.N ∧ by' ≤ 4096
section
variable {α : Type} {E : Elt α}
def Elt.flat (E : Elt α) (l : List α) : List Value := l.flatMap E.cells
theorem gflat_app (l m : List α) : E.flat (l ++ m) = E.flat l ++ E.flat m := by simp [Elt.flat]
theorem gflat_one (x : α) : E.flat [x] = E.cells x := by simp [Elt.flat]
theorem gflat_cons (x : α) (l : List α) : E.flat (x :: l) = E.cells x ++ E.flat l := by simp [Elt.flat]
theorem gflat_len : ∀ l : List α, (E.flat l).length = l.length * E.N
  | [] => by simp [Elt.flat]
  | x :: l => by rw [gflat_cons, List.length_append, E.len, gflat_len l, List.length_cons, Nat.succ_mul, Nat.add_comm]
theorem gflat_cells (l : List α) : ∀ u ∈ E.flat l, u.oneCell' = true := by
  intro u hu
  obtain ⟨x, _, hx⟩ := List.mem_flatMap.1 hu
  exact E.one x u hx
theorem gflat_at : ∀ (l : List α) (k : Nat) (x : α), l[k]? = some x → ∀ i, i < E.N → (E.flat l)[k * E.N + i]? = (E.cells x)[i]?
  | [], k, x, h, _, _ => by simp at h
  | y :: l, 0, x, hk, i, hi => by
    obtain rfl : y = x := by simpa using hk
    rw [gflat_cons, Nat.zero_mul, Nat.zero_add, List.getElem?_append_left (by rw [E.len]; exact hi)]
  | y :: l, k + 1, x, hk, i, hi => by
    rw [gflat_cons, List.getElem?_append_right (by rw [E.len, Nat.succ_mul]; omega), E.len, show (k + 1) * E.N + i - E.N = k * E.N + i by rw [Nat.succ_mul]; omega]
    exact gflat_at l k x (by simpa using hk) i hi
theorem gflat_set : ∀ (l : List α) (k : Nat) (x y : α) (i : Nat) (u : Value), l[k]? = some x → i < E.N → E.cells y = (E.cells x).set i u → E.flat (l.set k y) = (E.flat l).set (k * E.N + i) u
  | [], k, x, y, i, u, h, _, _ => by simp at h
  | z :: l, 0, x, y, i, u, hk, hi, e => by
    obtain rfl : z = x := by simpa using hk
    rw [List.set_cons_zero, Nat.zero_mul, Nat.zero_add, gflat_cons, gflat_cons, List.set_append_left _ _ (by rw [E.len]; exact hi), e]
  | z :: l, k + 1, x, y, i, u, hk, hi, e => by
    rw [List.set_cons_succ, gflat_cons, gflat_cons, List.set_append_right _ _ (by rw [E.len, Nat.succ_mul]; omega), E.len, show (k + 1) * E.N + i - E.N = k * E.N + i by rw [Nat.succ_mul]; omega, gflat_set l k x y i u (by simpa using hk) hi e]
theorem gflat_drop : ∀ (l : List α) (i : Nat), (E.flat l).drop (i * E.N) = E.flat (l.drop i)
  | [], i => by simp [Elt.flat]
  | x :: l, 0 => by simp
  | x :: l, i + 1 => by
    rw [gflat_cons, List.drop_succ_cons, ← gflat_drop l i, Nat.succ_mul, List.drop_append, E.len, List.drop_of_length_le (by rw [E.len]; omega), List.nil_append, show i * E.N + E.N - E.N = i * E.N by omega]
theorem gflat_take : ∀ (l : List α) (i : Nat), (E.flat l).take (i * E.N) = E.flat (l.take i)
  | [], i => by simp [Elt.flat]
  | x :: l, 0 => by simp [Elt.flat]
  | x :: l, i + 1 => by
    rw [gflat_cons, List.take_succ_cons, gflat_cons, ← gflat_take l i, Nat.succ_mul, List.take_append, E.len, List.take_of_length_le (by rw [E.len]; omega), show i * E.N + E.N - E.N = i * E.N by omega]
/-- A list that is read: m of them at A. -/
def Elt.Rd (E : Elt α) (w : World) (A : Option Addr) (m : Nat) (l : List α) : Prop := l.length = m ∧ (A = none → m = 0) ∧ (0 < m → ∀ a, A = some a → a = ⟨a.block, a.off, none⟩ ∧ w.rangeAt a.block a.off (E.flat l))
variable {w W : World} {A : Option Addr} {m B : Nat} {l : List α}
theorem grd_nil (w : World) (A : Option Addr) : E.Rd w A 0 [] := ⟨rfl, fun _ => rfl, fun h => absurd h (Nat.lt_irrefl 0)⟩
theorem grd_below (h : E.Rd w A m l) (q : Below B w W) (hB : w.heap.size ≤ B) : E.Rd W A m l :=
  ⟨h.1, h.2.1, fun hm a e => ⟨(h.2.2 hm a e).1, rng_below (h.2.2 hm a e).2 q hB⟩⟩
/-- One of them. -/
theorem grd_rng (h : E.Rd w A m l) {k : Nat} {x : α} (hx : l[k]? = some x) : ∃ b o, A = some ⟨b, o, none⟩ ∧ w.rangeAt b (o + k * E.N) (E.cells x) := by
  have hk := (List.getElem?_eq_some_iff.1 hx).1
  have hm : 0 < m := by have := h.1; omega
  cases A with
  | none => have := h.2.1 rfl; omega
  | some a =>
    obtain ⟨e, r⟩ := h.2.2 hm a rfl
    refine ⟨a.block, a.off, by rw [← e], fun j u hj => ?_⟩
    have hl := (List.getElem?_eq_some_iff.1 hj).1
    rw [E.len] at hl
    rw [Nat.add_assoc]
    exact r _ _ (by rw [gflat_at l k x hx j hl, hj])
/-- A part of them. -/
theorem grd_part (h : E.Rd w A m l) {i j : Nat} (hij : i ≤ j) (hj : j ≤ m) : E.Rd w (A.map fun a => ⟨a.block, a.off + i * E.N, none⟩) (j - i) ((l.take j).drop i) := by
  have hl := h.1
  refine ⟨by rw [List.length_drop, List.length_take]; omega, fun e => ?_, fun hp a e => ?_⟩
  · cases A with
    | none => have := h.2.1 rfl; omega
    | some a => cases e
  · cases A with
    | none => cases e
    | some a0 =>
      obtain ⟨_, r⟩ := h.2.2 (by omega) a0 rfl
      cases e
      refine ⟨rfl, fun q u hq => ?_⟩
      show w.cell? ⟨a0.block, a0.off + i * E.N + q, none⟩ = some u
      rw [Nat.add_assoc]
      refine r _ _ ?_
      rw [← gflat_drop, ← gflat_take, List.getElem?_drop, List.getElem?_take] at hq
      split at hq
      · exact hq
      · cases hq
theorem grd_news {a : Addr} (h : E.Rd w (some a) m l) : ∀ j u, (E.flat l)[j]? = some u → w.cell? (a.add j) = some u := by
  intro j u hj
  have c : 0 < m := by
    rcases Nat.eq_zero_or_pos m with c | c
    · have h1 := h.1
      rw [c] at h1
      rw [List.length_eq_zero_iff.1 h1] at hj
      simp [Elt.flat] at hj
    · exact c
  obtain ⟨e, r⟩ := h.2.2 c a rfl
  obtain ⟨b, o, s⟩ := a
  cases e
  rw [Addr.add_mid]
  exact r j u hj
/-- A row of one's own. -/
def Elt.Own (E : Elt α) (te : TypeId) (w : World) (B : Nat) (v : Value) (l : List α) : Prop := w.ownsRow B te E.N v l.length (E.flat l)
variable {te : TypeId} {v : Value}
theorem gown_nil (w : World) (B : Nat) : E.Own te w B (.slice none 0 0) [] := ⟨by simp [Elt.flat], .inl ⟨rfl, rfl⟩⟩
theorem gown_new (w : World) : E.Own te (w.alloc (.cells #[] te)) w.heap.size (.slice (some ⟨w.heap.size, 0, none⟩) 0 0) [] :=
  ⟨by simp [Elt.flat], .inr ⟨w.heap.size, 0, #[], rfl, Nat.le_refl _, heap_alloc_new w _, Nat.le_refl _, by unfold maxLen; omega, by simp, by simp [Elt.flat]⟩⟩
theorem gown_form (h : E.Own te w B v l) : ∃ A c, v = .slice A l.length c ∧ (A = none → c = 0) := by
  rcases h.2 with ⟨rfl, e⟩ | ⟨b, c, cur, e, _⟩
  · exact ⟨none, 0, by rw [e], fun _ => rfl⟩
  · exact ⟨_, _, e, fun h => by cases h⟩
theorem gown_any (h : E.Own te w B v l) : ∃ A n c, v = .slice A n c := by
  obtain ⟨A, c, e, _⟩ := gown_form h
  exact ⟨A, _, c, e⟩
theorem gown_slot (h : E.Own te w B v l) (hk : 0 < l.length) : ∃ b c, v = .slice (some ⟨b, 0, none⟩) l.length c := by
  rcases h.2 with ⟨_, e⟩ | ⟨b, c, cur, e, _⟩
  · omega
  · exact ⟨b, c, e⟩
theorem gown_cap {b n c : Nat} (h : E.Own te w B (.slice (some ⟨b, 0, none⟩) n c) l) : n ≤ c ∧ c ≤ 9223372036854775807 := by
  rcases h.2 with ⟨e, _⟩ | ⟨b', c', cur, e, _, _, h1, h2, _⟩
  · cases e
  · cases e; exact ⟨h1, h2⟩
theorem gown_lt (h : E.Own te w B v l) {k : Nat} (hk : v.ownBlock = some k) : B ≤ k ∧ k < w.heap.size := by
  rcases h.2 with ⟨e, _⟩ | ⟨b, c, cur, e, hb, hh, _⟩
  · rw [e] at hk; cases hk
  · rw [e] at hk; cases hk; exact ⟨hb, (Array.getElem?_eq_some_iff.1 hh).1⟩
theorem gown_cells (h : E.Own te w B v l) {k : Nat} (hk : v.ownBlock = some k) : ∃ cur, w.heap[k]? = some (.cells cur te (0, 0)) := by
  rcases h.2 with ⟨e, _⟩ | ⟨b, c, cur, e, hb, hh, _⟩
  · rw [e] at hk; cases hk
  · rw [e] at hk; cases hk; exact ⟨cur, hh⟩
theorem gown_low {B' : Nat} (h : E.Own te w B v l) (hB : B' ≤ B) : E.Own te w B' v l := by
  refine ⟨h.1, ?_⟩
  rcases h.2 with q | ⟨b, c, cur, e, hb, r⟩
  · exact .inl q
  · exact .inr ⟨b, c, cur, e, Nat.le_trans hB hb, r⟩
theorem gown_same (h : E.Own te w B v l) (hb : ∀ k, v.ownBlock = some k → W.heap[k]? = w.heap[k]?) : E.Own te W B v l := by
  refine ⟨h.1, ?_⟩
  rcases h.2 with q | ⟨b, c, cur, e, hb2, hh, r⟩
  · exact .inl q
  · exact .inr ⟨b, c, cur, e, hb2, (hb b (by rw [e]; rfl)).trans hh, r⟩
theorem gown_fr {S : Nat → Prop} (h : E.Own te w B v l) (f : Fr S w W) (hS : ∀ k, v.ownBlock = some k → ¬ S k) : E.Own te W B v l :=
  gown_same h fun k hk => f.at' k (gown_lt h hk).2 (hS k hk)
theorem gown_below (h : E.Own te w B v l) (q : Below w.heap.size w W) : E.Own te W B v l := gown_fr h (S := fun _ => False) (Fr.below q) (fun _ _ h => h)
theorem gown_rd {n c : Nat} (h : E.Own te w B (.slice A n c) l) : E.Rd w A n l := by
  have e : n = l.length := by
    obtain ⟨A', c', e, _⟩ := gown_form h
    cases e; rfl
  subst e
  refine ⟨rfl, fun e => ?_, fun hm a e => ?_⟩
  · rcases h.2 with ⟨_, z⟩ | ⟨b, c1, cur, e1, _⟩
    · exact z
    · subst e; cases e1
  · obtain ⟨b1, c1, e1⟩ := gown_slot h hm
    cases e1; cases e
    refine ⟨rfl, fun j u hj => ?_⟩
    have hl := (List.getElem?_eq_some_iff.1 hj).1
    rw [gflat_len] at hl
    rw [Nat.zero_add, World.ownsRow.cellAt h j hl, hj]
theorem gown_fz {b n c : Nat} (h : E.Own te w B (.slice (some ⟨b, 0, none⟩) n c) l) (j : Nat) : w.frozen? ⟨b, j, none⟩ = false := by
  obtain ⟨cur, hh⟩ := gown_cells h (k := b) rfl
  simp [World.frozen?, hh]
theorem gown_at {b n c : Nat} (h : E.Own te w B (.slice (some ⟨b, 0, none⟩) n c) l) {k : Nat} {x : α} (hk : l[k]? = some x) {i : Nat} (hi : i < E.N) : w.cell? ⟨b, k * E.N + i, none⟩ = (E.cells x)[i]? := by
  obtain ⟨b', o', e, r⟩ := grd_rng (gown_rd h) hk
  cases e
  have hl : i < (E.cells x).length := by rw [E.len]; exact hi
  have := r i _ (List.getElem?_eq_getElem hl)
  rw [Nat.zero_add] at this
  rw [this, List.getElem?_eq_getElem hl]
theorem gown_rng {b n c : Nat} (h : E.Own te w B (.slice (some ⟨b, 0, none⟩) n c) l) {k : Nat} {x : α} (hk : l[k]? = some x) : w.rangeAt b (k * E.N) (E.cells x) := by
  obtain ⟨b', o', e, r⟩ := grd_rng (gown_rd h) hk
  cases e
  rw [Nat.zero_add] at r
  exact r
/-- A cell of one of them is written. -/
theorem gown_put {b n c : Nat} (h : E.Own te w B (.slice (some ⟨b, 0, none⟩) n c) l) {k : Nat} {x y : α} (hk : l[k]? = some x) {i : Nat} (hi : i < E.N) {u : Value} (e : E.cells y = (E.cells x).set i u) : E.Own te (w.setCell ⟨b, k * E.N + i, none⟩ u) B (.slice (some ⟨b, 0, none⟩) n c) (l.set k y) := by
  obtain ⟨A', c', e1, _⟩ := gown_form h
  obtain ⟨b', c1, cur, e2, hb, hh, hn, hm, hs, ht⟩ := h.2.resolve_left (fun c => by cases c.1)
  cases e1
  cases e2
  refine ⟨by rw [gflat_len], .inr ⟨b, c, cur.setIfInBounds (k * E.N + i) u, by rw [List.length_set], hb, heap_setCell_same w b _ cur _ _ hh, by rw [List.length_set]; exact hn, hm, by rw [Array.size_setIfInBounds]; exact hs, ?_⟩⟩
  rw [List.length_set, Array.toList_setIfInBounds, List.take_set, ht, gflat_set l k x y i u hk hi e]
/-- append. -/
theorem gpl_app {P : Program} {ts : TypeId} (T : EltT P E ts te) {w : World} {ops : Array Oper} {rest : List Oper} {o : Oper} {a : Act} {Q : Exit → Act → World → Prop} (hgd : o.guard = none) (s x : Operand)
    (ho : o.op = .call { callee := .builtin .append, args := #[s, x], argTypes := #[ts, ts] }) (base : Nat) (v : Value) (xs : List α) (hs : a.eval s = v)
    (hown : E.Own te w base v xs) (A : Option Addr) (m c : Nat) (l : List α) (hx : a.eval x = .slice A m c) (hr : E.Rd w A m l) (h0 : A = none → c = 0) (hlen : xs.length + m ≤ 100000) (hbase : base ≤ w.heap.size)
    (h : ∀ v' w', E.Own te w' base v' (xs ++ l) → w.grownBy w' v.ownBlock → (v'.ownBlock = v.ownBlock ∨ v'.ownBlock = some w.heap.size) → wpList P ops Q rest (a.put o.dst v') w') : wpList P ops Q (o :: rest) a w := by
  obtain ⟨z, by', hi, hzs, hby⟩ := T.info
  obtain ⟨i0, hi0, hz0, hz1, hz2⟩ := info_parts hi
  have el : (xs ++ l).length = xs.length + m := by rw [List.length_append, hr.1]
  cases A with
  | none =>
    have hm := hr.2.1 rfl
    have hc := h0 rfl
    subst hm hc
    have e : l = [] := List.eq_nil_of_length_eq_zero hr.1
    subst e
    refine wpList_append_own_none hgd s x ts ho base te i0 E.N T.und hi0 v xs.length (E.flat xs) hs hown hx ?_
    exact h v w (by rw [List.append_nil]; exact hown) (World.grownBy.refl _ _) (.inl rfl)
  | some ad =>
    refine wpList_append_own_at w hgd s x ts ho base te i0 z E.N by' T.und hi0 hz0 hz1 hz2 hzs E.pos v xs.length (E.flat xs) hs hown ad m c (E.flat l) hx ?_ (grd_news hr) (gflat_cells _) (by unfold maxLen; omega) ?_ hbase fun v' w' h2 h3 _ h5 => h v' w' (by unfold Elt.Own; rw [el, gflat_app]; exact h2) h3 h5
    · rw [gflat_len, hr.1]
    · have := Nat.mul_le_mul hlen hby
      omega
/-- append, at the operation. -/
theorem gwp_app {P : Program} {ts : TypeId} (T : EltT P E ts te) {w : World} {o : Oper} {a : Act} {K : Act → World → Prop} {Q : Exit → Act → World → Prop} (s x : Operand)
    (ho : o.op = .call { callee := .builtin .append, args := #[s, x], argTypes := #[ts, ts] }) (base : Nat) (v : Value) (xs : List α) (hs : a.eval s = v)
    (hown : E.Own te w base v xs) (A : Option Addr) (m c : Nat) (l : List α) (hx : a.eval x = .slice A m c) (hr : E.Rd w A m l) (h0 : A = none → c = 0) (hlen : xs.length + m ≤ 100000) (hbase : base ≤ w.heap.size)
    (h : ∀ v' w', E.Own te w' base v' (xs ++ l) → w.grownBy w' v.ownBlock → (v'.ownBlock = v.ownBlock ∨ v'.ownBlock = some w.heap.size) → K (a.put o.dst v') w') : o.wp P a w K Q := by
  obtain ⟨z, by', hi, hzs, hby⟩ := T.info
  obtain ⟨i0, hi0, hz0, hz1, hz2⟩ := info_parts hi
  have el : (xs ++ l).length = xs.length + m := by rw [List.length_append, hr.1]
  cases A with
  | none =>
    have hm := hr.2.1 rfl
    have hc := h0 rfl
    subst hm hc
    have e : l = [] := List.eq_nil_of_length_eq_zero hr.1
    subst e
    have hrun := run_append_owned_none (P := P) (w := w) base ts o.type te i0 E.N T.und hi0 v xs.length (E.flat xs) hown
    unfold Oper.wp
    simp [execOp, ho, resolve, invoke, builtin, hs, hx, hrun, Result.andThen]
    exact h v w (by rw [List.append_nil]; exact hown) (World.grownBy.refl _ _) (.inl rfl)
  | some ad =>
    obtain ⟨v', w', hrun, h2, h3, h4, h5⟩ := run_append_own_at (P := P) w base ts o.type te i0 z E.N by' T.und hi0 hz0 hz1 hz2 hzs E.pos v xs.length (E.flat xs) hown ad m c (E.flat l) (by rw [gflat_len, hr.1]) (grd_news hr) (gflat_cells _) (by unfold maxLen; omega) (by have := Nat.mul_le_mul hlen hby; omega) hbase
    unfold Oper.wp execOp
    simp only [ho, resolve, invoke, builtin, Sem.run_bind, Sem.run_pure, Result.andThen_ok, List.map_toArray, List.map_cons, List.map_nil, hs, hx, hrun]
    exact h v' w' (by unfold Elt.Own; rw [el, gflat_app]; exact h2) h3 h5
/-- A slice of one built, at the operation. -/
theorem gwp_bs {P : Program} {ts : TypeId} (T : EltT P E ts te) {w : World} {o : Oper} {a : Act} {K : Act → World → Prop} {Q : Exit → Act → World → Prop} {x : Operand} (ho : o.op = .buildSlice ts 1 #[(0, x)]) {s : α} (hx : a.eval x = .agg (E.cells s).toArray)
    (hf : ∀ z : Value, z.cells.size = E.N → Instr.fill (fun i => some (i * E.N, E.N)) ((Array.range (1 * E.N)).map (z.cells[· % z.cells.size]!)) [(0, .agg (E.cells s).toArray)] = some (E.cells s).toArray)
    (h : K (a.put o.dst (.slice (some ⟨w.heap.size, 0, none⟩) 1 1)) (w.alloc (.cells (E.cells s).toArray te))) (hN : E.N ≤ 100000) : o.wp P a w K Q := by
  obtain ⟨z, by', hi, hzs, _⟩ := T.info
  obtain ⟨ie, h1, h2, h3, _⟩ := info_parts hi
  refine wp_buildSlice ts te 1 #[(0, x)] ho (E.cells s).toArray ie z T.und h1 h2 (by rw [h3, Nat.one_mul]; have e : 2 ^ 24 = 16777216 := rfl; rw [e]; omega) (by rw [h3]; have := E.pos; omega) ?_ h
  rw [h3, show ((#[(0, x)] : Array (Nat × Operand)).map fun (i, x) => (i, a.eval x)).toList = [(0, a.eval x)] from by simp, hx]
  exact hf z hzs
theorem below_row0 {base : Nat} {w W : World} {g : Nat} {cs : Array Value} (b : Below base w W) (h : base ≤ g) : Below base w (W.setRow g cs) :=
  ⟨b.os, b.tape, b.output, by
    have := b.size
    show w.heap.size ≤ (W.heap.modify g _).size
    rw [Array.size_modify]; exact this, fun i hi => (setRow_other W g i cs (by omega)).trans (b.block i hi)⟩
theorem fr_row {S : Nat → Prop} {W : World} {g : Nat} (h : S g) (cs : Array Value) : Fr S W (W.setRow g cs) :=
  ⟨below_row0 (Below.refl 0 W) (Nat.zero_le _), fun i _ hn => setRow_other W g i cs (fun e => hn (e ▸ h))⟩
/-- A struct in a block of its own. -/
def Elt.Bx (E : Elt α) (te : TypeId) (w : World) (g : Nat) (x : α) : Prop := w.heap[g]? = some (.cells (E.cells x).toArray te (0, 0))
theorem gbx_new (w : World) (x : α) : E.Bx te (w.alloc (.cells (E.cells x).toArray te)) w.heap.size x := heap_alloc_new w _
theorem gbx_cell {g : Nat} {x : α} (h : E.Bx te w g x) (j : Nat) : w.cell? ⟨g, j, none⟩ = (E.cells x)[j]? := by rw [cell_of_row _ _ _ _ _ _ h]; simp
theorem gbx_rng {g : Nat} {x : α} (h : E.Bx te w g x) : w.rangeAt g 0 (E.cells x) := fun j u hj => by rw [Nat.zero_add, gbx_cell h, hj]
theorem gbx_rd {g : Nat} {x : α} (h : E.Bx te w g x) : E.Rd w (some ⟨g, 0, none⟩) 1 [x] := ⟨rfl, (fun h => by cases h), fun _ a e => by cases e; exact ⟨rfl, by rw [gflat_one]; exact gbx_rng h⟩⟩
theorem gbx_below {g : Nat} {x : α} (h : E.Bx te w g x) (q : Below w.heap.size w W) : E.Bx te W g x := (q.block g (Array.getElem?_eq_some_iff.1 h).1).trans h
theorem gbx_set {g : Nat} {x y : α} (h : E.Bx te w g y) : E.Bx te (w.setRow g (E.cells x).toArray) g x := setRow_heap w g _ _ _ _ h
theorem gbx_fz {g : Nat} {x : α} (h : E.Bx te w g x) (j : Nat) : w.frozen? ⟨g, j, none⟩ = false := by simp [World.frozen?, show w.heap[g]? = _ from h]
theorem gbx_put {g : Nat} {x y : α} (h : E.Bx te w g x) {i : Nat} {u : Value} (e : E.cells y = (E.cells x).set i u) : E.Bx te (w.setCell ⟨g, i, none⟩ u) g y := by
  unfold Elt.Bx
  rw [heap_setCell_same w g i _ _ u h, e, List.setIfInBounds_toArray]
section
variable {P : Program} {ts : TypeId} {ops : Array Oper} {rest : List Oper} {a : Act} {Q : Exit → Act → World → Prop} {d : Option Nat} {x y : Operand} {ty : TypeId} {ps : String} {af : Array Edge} {gd : Option (Nat × Bool)}
theorem gsize (T : EltT P E ts te) : (P.info? te).map (fun i => i.size) = some E.N := by
  obtain ⟨z, by', hi, _, _⟩ := T.info
  obtain ⟨i0, hi0, _, hz1, _⟩ := info_parts hi
  rw [hi0]; simp [hz1]
/-- A whole struct loaded, guarded or not; stored. -/
theorem gwl_load (T : EltT P E ts te) {s : α} (b o : Nat) (hb : w.rangeAt b o (E.cells s))
    (hw : Region.wanted ⟨d, .load te x, ty, ps, af, gd⟩ (yielded ops a.tmps) = true) (hx : a.eval x = .pointer (some ⟨b, o, none⟩)) (h : wpList P ops Q rest (a.put d (.agg (E.cells s).toArray)) w) : wpList P ops Q (⟨d, .load te x, ty, ps, af, gd⟩ :: rest) a w := by
  obtain ⟨fs, hu⟩ := T.row
  exact BigFrame.wpList_want hw fun _ hK => wp_load_mid te x rfl b o hx (E.cells s) _ hb hu rfl (by rw [gsize T, E.len]) (hK _ _ h)
theorem gyields_load (T : EltT P E ts te) {S : World → Prop} {o : Oper} {a : Act} (hw : Region.wanted o (yielded ops a.tmps) = true) (x : Operand) (ho : o.op = .load te x) (b k : Nat) (hx : a.eval x = .pointer (some ⟨b, k, none⟩)) {s : α} (hS : ∀ w, S w → w.rangeAt b k (E.cells s)) :
    YieldsIf P ops S o (.agg (E.cells s).toArray) a := by
  obtain ⟨fs, hu⟩ := T.row
  exact yieldsIf_load_mid hw te x ho b k hx (E.cells s) _ hS hu rfl (by rw [gsize T, E.len])
theorem gall_one (s : α) : ((E.cells s).toArray.all fun v => v.oneCell') = true := by
  rw [Array.all_eq_true_iff_forall_mem]
  intro v hv
  exact E.one s v (by simpa using hv)
theorem gwl_store (T : EltT P E ts te) (s : α) {t : α} (g : Nat) (hb : E.Bx te w g t) (hx : a.eval x = .pointer (some ⟨g, 0, none⟩)) (hy : a.eval y = .agg (E.cells s).toArray)
    (h : wpList P ops Q rest (a.put d undef) (w.setRow g (E.cells s).toArray)) : wpList P ops Q (⟨d, .store te x y, ty, ps, af, none⟩ :: rest) a w :=
  wpList_store_row rfl te x y rfl g (E.cells s).toArray hx hy te (E.cells t).toArray hb (by rw [gsize T, List.size_toArray, E.len]) (by rw [List.size_toArray, List.size_toArray, E.len, E.len]) (gall_one s) h
/-- A slice of one built. -/
theorem gwl_bs (T : EltT P E ts te) {s : α} (hx : a.eval x = .agg (E.cells s).toArray)
    (hf : ∀ z : Value, z.cells.size = E.N → Instr.fill (fun i => some (i * E.N, E.N)) ((Array.range (1 * E.N)).map (z.cells[· % z.cells.size]!)) [(0, .agg (E.cells s).toArray)] = some (E.cells s).toArray)
    (h : wpList P ops Q rest (a.put d (.slice (some ⟨w.heap.size, 0, none⟩) 1 1)) (w.alloc (.cells (E.cells s).toArray te))) (hN : E.N ≤ 100000) :
    wpList P ops Q ({ dst := d, op := .buildSlice ts 1 #[(0, x)], type := ty, pos := ps, after := af, guard := none } :: rest) a w := by
  obtain ⟨z, by', hi, hzs, _⟩ := T.info
  obtain ⟨ie, h1, h2, h3, _⟩ := info_parts hi
  refine wpList_buildSlice rfl ts te 1 #[(0, x)] rfl (E.cells s).toArray ie z T.und h1 h2 (by rw [h3, Nat.one_mul]; have e : 2 ^ 24 = 16777216 := rfl; rw [e]; omega) (by rw [h3]; have := E.pos; omega) ?_ h
  rw [h3, show ((#[(0, x)] : Array (Nat × Operand)).map fun (i, x) => (i, a.eval x)).toList = [(0, a.eval x)] from by simp, hx]
  exact hf z hzs
/-- Results: a struct in a block, and a value. -/
theorem gret (T : EltT P E ts te) {fn : Func} {p u : Tmp} (h : fn.results = #[.cell p te, .tmp u]) (tmps : Array Value) (w : World) (g : Nat) {s : α} {v : Value} (hp : tmps.getD p undef = .pointer (some ⟨g, 0, none⟩)) (hv : tmps.getD u undef = v) (hb : E.Bx te w g s) :
    (results fn tmps).run P w = .ok (.tuple #[.agg (E.cells s).toArray, v]) w := by
  obtain ⟨fs, hu⟩ := T.row
  rw [results_cell_tmp h]
  simp [hp, hv, asAddr, run_loadVar_row w g te te (E.cells s).toArray (0, 0) _ hb hu rfl (by rw [gsize T, List.size_toArray, E.len])]
/-- The zero struct built. -/
theorem gwl_build0 {z : α} (hz : P.built te [] = some (E.cells z).toArray) (h : wpList P ops Q rest (a.put d (.agg (E.cells z).toArray)) w) :
    wpList P ops Q ({ dst := d, op := .build te #[], type := ty, pos := ps, after := af, guard := none } :: rest) a w := by
  have e : ∀ f : (Nat × Operand) → (Nat × Value), (Array.map f #[]).toList = [] := fun f => by simp
  refine wpList_build rfl te #[] rfl (by rw [e, hz]; rfl) ?_
  rw [e, hz]
  exact h
end
end
end Go.Proofs.YtbmlpokkojhhjaaGreat
/- GENERIC: structs that no slice type holds: loaded, stored, told. -/
namespace Go.Proofs.YtbmlpokkojhhjaaGreat
open Go.RowKit
set_option linter.unusedVariables false
set_option linter.unusedSimpArgs false

/-- What a program says of its struct type te. -/
structure EltR {α : Type} (P : Program) (E : Elt α) (te : TypeId) : Prop where
  row : ∃ fs, P.underlying te = some (.struct fs)
  size : (P.info? te).map (fun i => i.size) = some E.N
section
variable {α : Type} {E : Elt α} {te : TypeId} {P : Program} {w : World} {ops : Array Oper} {rest : List Oper} {a : Act} {Q : Exit → Act → World → Prop} {d : Option Nat} {x y : Operand} {ty : TypeId} {ps : String} {af : Array Edge} {gd : Option (Nat × Bool)}
theorem rwl_load (T : EltR P E te) {s : α} (b o : Nat) (hb : w.rangeAt b o (E.cells s))
    (hw : Region.wanted ⟨d, .load te x, ty, ps, af, gd⟩ (yielded ops a.tmps) = true) (hx : a.eval x = .pointer (some ⟨b, o, none⟩)) (h : wpList P ops Q rest (a.put d (.agg (E.cells s).toArray)) w) : wpList P ops Q (⟨d, .load te x, ty, ps, af, gd⟩ :: rest) a w := by
  obtain ⟨fs, hu⟩ := T.row
  exact BigFrame.wpList_want hw fun _ hK => wp_load_mid te x rfl b o hx (E.cells s) _ hb hu rfl (by rw [T.size, E.len]) (hK _ _ h)
theorem ryields_load (T : EltR P E te) {S : World → Prop} {o : Oper} {a : Act} (hw : Region.wanted o (yielded ops a.tmps) = true) (x : Operand) (ho : o.op = .load te x) (b k : Nat) (hx : a.eval x = .pointer (some ⟨b, k, none⟩)) {s : α} (hS : ∀ w, S w → w.rangeAt b k (E.cells s)) :
    YieldsIf P ops S o (.agg (E.cells s).toArray) a := by
  obtain ⟨fs, hu⟩ := T.row
  exact yieldsIf_load_mid hw te x ho b k hx (E.cells s) _ hS hu rfl (by rw [T.size, E.len])
theorem rwl_store (T : EltR P E te) (s : α) {t : α} (g : Nat) (hb : E.Bx te w g t) (hx : a.eval x = .pointer (some ⟨g, 0, none⟩)) (hy : a.eval y = .agg (E.cells s).toArray)
    (h : wpList P ops Q rest (a.put d undef) (w.setRow g (E.cells s).toArray)) : wpList P ops Q (⟨d, .store te x y, ty, ps, af, none⟩ :: rest) a w :=
  wpList_store_row rfl te x y rfl g (E.cells s).toArray hx hy te (E.cells t).toArray hb (by rw [T.size, List.size_toArray, E.len]) (by rw [List.size_toArray, List.size_toArray, E.len, E.len]) (gall_one s) h
theorem rret (T : EltR P E te) {fn : Func} {p u : Tmp} (h : fn.results = #[.cell p te, .tmp u]) (tmps : Array Value) (w : World) (g : Nat) {s : α} {v : Value} (hp : tmps.getD p undef = .pointer (some ⟨g, 0, none⟩)) (hv : tmps.getD u undef = v) (hb : E.Bx te w g s) :
    (results fn tmps).run P w = .ok (.tuple #[.agg (E.cells s).toArray, v]) w := by
  obtain ⟨fs, hu⟩ := T.row
  rw [results_cell_tmp h]
  simp [hp, hv, asAddr, run_loadVar_row w g te te (E.cells s).toArray (0, 0) _ hb hu rfl (by rw [T.size, List.size_toArray, E.len])]
theorem rwl_build0 {z : α} (hz : P.built te [] = some (E.cells z).toArray) (h : wpList P ops Q rest (a.put d (.agg (E.cells z).toArray)) w) :
    wpList P ops Q ({ dst := d, op := .build te #[], type := ty, pos := ps, after := af, guard := none } :: rest) a w := gwl_build0 hz h
end
theorem rret1 {α : Type} {E : Elt α} {te : TypeId} {P : Program} (T : EltR P E te) {fn : Func} {p : Tmp} (h : fn.results = #[.cell p te]) (tmps : Array Value) (w : World) (g : Nat) {s : α} (hp : tmps.getD p undef = .pointer (some ⟨g, 0, none⟩)) (hb : E.Bx te w g s) :
    (results fn tmps).run P w = .ok (.agg (E.cells s).toArray) w := by
  obtain ⟨fs, hu⟩ := T.row
  exact results_cell_row h tmps w g te (E.cells s).toArray (0, 0) _ hp hb hu rfl (by rw [T.size, List.size_toArray, E.len])
end Go.Proofs.YtbmlpokkojhhjaaGreat
/- Plain facts on a contract's data: as cells, whether they may be; no program's function. -/
namespace Go.Proofs.YtbmlpokkojhhjaaGreat
open Go.RowKit

/-- A contract's data. -/
structure Sp where
  nu : Int
  ro : Int
  ti : Int
  lo : Int
  ba : Int
  li : Int
  sh : List Int
  cr : Int
  la : Int
  fi : Int
def I64 (x : Int) : Prop := -9223372036854775808 ≤ x ∧ x ≤ 9223372036854775807
/-- Each fits its kind. -/
structure Sp.ok (s : Sp) : Prop where
  nu : 0 ≤ s.nu ∧ s.nu ≤ 4294967295
  ro : 0 ≤ s.ro ∧ s.ro ≤ 255
  ti : I64 s.ti
  lo : I64 s.lo
  ba : I64 s.ba
  li : I64 s.li
  len : s.sh.length = 16
  sh : ∀ x, x ∈ s.sh → I64 x
  cr : I64 s.cr
  la : 0 ≤ s.la ∧ s.la ≤ 4294967295
  fi : I64 s.fi
def Sp.cellL (s : Sp) : List Value := [.int .u32 s.nu, .int .u8 s.ro, .int .i64 s.ti, .int .i64 s.lo, .int .i64 s.ba, .int .i64 s.li] ++ (s.sh.map (Value.int .i64) ++ [.int .i64 s.cr, .int .u32 s.la, .int .i64 s.fi])
def Sp.cells (s : Sp) : Array Value := s.cellL.toArray
theorem Sp.size {s : Sp} (h : s.sh.length = 16) : s.cells.size = 25 := by simp [Sp.cells, Sp.cellL, h]
theorem Sp.c0 (s : Sp) : s.cells[0]? = some (.int .u32 s.nu) := rfl
theorem Sp.c1 (s : Sp) : s.cells[1]? = some (.int .u8 s.ro) := rfl
theorem Sp.c2 (s : Sp) : s.cells[2]? = some (.int .i64 s.ti) := rfl
theorem Sp.c3 (s : Sp) : s.cells[3]? = some (.int .i64 s.lo) := rfl
theorem Sp.c4 (s : Sp) : s.cells[4]? = some (.int .i64 s.ba) := rfl
theorem Sp.c5 (s : Sp) : s.cells[5]? = some (.int .i64 s.li) := rfl
theorem Sp.c6 {s : Sp} (h : s.sh.length = 16) (i : Nat) (hi : i < 16) : s.cells[6 + i]? = some (.int .i64 (s.sh.getD i 0)) := by
  have hl : i < s.sh.length := by omega
  have e : s.cells[6 + i]? = (s.sh.map (Value.int .i64) ++ [.int .i64 s.cr, .int .u32 s.la, .int .i64 s.fi])[i]? := by
    rw [show 6 + i = i + 1 + 1 + 1 + 1 + 1 + 1 by omega]
    simp [Sp.cells, Sp.cellL]
  rw [e, List.getElem?_append_left (by rw [List.length_map]; exact hl)]
  simp [List.getD, hl]
theorem Sp.c22 {s : Sp} (h : s.sh.length = 16) : s.cells[22]? = some (.int .i64 s.cr) := by
  simp [Sp.cells, Sp.cellL, h]
theorem Sp.c23 {s : Sp} (h : s.sh.length = 16) : s.cells[23]? = some (.int .u32 s.la) := by
  simp [Sp.cells, Sp.cellL, h]
theorem Sp.c24 {s : Sp} (h : s.sh.length = 16) : s.cells[24]? = some (.int .i64 s.fi) := by
  simp [Sp.cells, Sp.cellL, h]
theorem Sp.one (s : Sp) : (s.cells.all fun x => x.oneCell') = true := by simp [Sp.cells, Sp.cellL, Value.oneCell']

/-- Between two bounds; a price of a tick. -/
def amB (n l m : Int) : Bool := decide (l ≤ n ∧ n ≤ m)
def prB (t n : Int) : Bool := decide ((1 ≤ n ∧ n ≤ 10000000) ∧ n % t = 0)
def someUp (l : List Int) : Bool := l.any fun x => decide (0 < x)
def someDown (l : List Int) : Bool := l.any fun x => decide (x < 0)
/-- The first conditions; then the shifts'. -/
def headB (s : Sp) : Bool := decide (s.nu ≠ 0) && amB s.ro 1 8 && amB s.ti 1 10000000 && amB s.lo 1 1000000 && amB s.ba 0 10000000 && amB s.li 1 10000000 && amB s.cr 0 10000000
def mayB (s : Sp) : Bool := headB s && s.sh.all (fun x => amB x (-10000000) 10000000) && someUp s.sh && someDown s.sh && prB s.ti s.fi
def priceB (s : Sp) (n : Int) : Bool := mayB s && prB s.ti n
def qtyB (s : Sp) (n : Int) : Bool := mayB s && decide ((1 ≤ n ∧ n ≤ 1000000) ∧ n % s.lo = 0)
def bandB (s : Sp) (a b : Int) : Bool := mayB s && decide (a - b ≤ s.ba ∧ b - a ≤ s.ba)
theorem amB_iff {n l m : Int} : amB n l m = true ↔ l ≤ n ∧ n ≤ m := by simp [amB]
theorem prB_iff {t n : Int} : prB t n = true ↔ (1 ≤ n ∧ n ≤ 10000000) ∧ n % t = 0 := by simp [prB]
theorem may_head {s : Sp} (h : mayB s = true) : headB s = true := by
  unfold mayB at h
  simp only [Bool.and_eq_true] at h
  exact h.1.1.1.1
theorem head_parts {s : Sp} (h : headB s = true) : s.nu ≠ 0 ∧ (1 ≤ s.ro ∧ s.ro ≤ 8) ∧ (1 ≤ s.ti ∧ s.ti ≤ 10000000) ∧ (1 ≤ s.lo ∧ s.lo ≤ 1000000) ∧ (0 ≤ s.ba ∧ s.ba ≤ 10000000) ∧ (1 ≤ s.li ∧ s.li ≤ 10000000) ∧ 0 ≤ s.cr ∧ s.cr ≤ 10000000 := by
  unfold headB at h
  simp only [Bool.and_eq_true, amB_iff, decide_eq_true_eq] at h
  obtain ⟨⟨⟨⟨⟨⟨a, b⟩, c⟩, d⟩, e⟩, f⟩, g⟩ := h
  exact ⟨a, b, c, d, e, f, g⟩
theorem may_fi {s : Sp} (h : mayB s = true) : (1 ≤ s.fi ∧ s.fi ≤ 10000000) ∧ s.fi % s.ti = 0 := by
  unfold mayB at h
  simp only [Bool.and_eq_true] at h
  exact prB_iff.1 h.2
theorem may_sh {s : Sp} (h : mayB s = true) : ∀ x, x ∈ s.sh → -10000000 ≤ x ∧ x ≤ 10000000 := by
  unfold mayB at h
  simp only [Bool.and_eq_true] at h
  intro x hx
  exact amB_iff.1 (List.all_eq_true.1 h.1.1.1.2 x hx)
def zeroSp : Sp := ⟨0, 0, 0, 0, 0, 0, List.replicate 16 0, 0, 0, 0⟩
theorem zero_ok : zeroSp.ok := by
  refine ⟨?_, ?_, ?_, ?_, ?_, ?_, ?_, ?_, ?_, ?_, ?_⟩ <;> first | (simp [zeroSp, I64]) | skip
end Go.Proofs.YtbmlpokkojhhjaaGreat
/- An argument that is a contract's data, opened: it reads as ten fields, each fitting its kind. -/
namespace Go.Proofs.YtbmlpokkojhhjaaGreat
open Go.ChangeShapes Go.WideShapes Go.ChangeAt Go.RowKit

theorem cells_sp : Tryz.prog.cellsOf 29 = 25 := by kernel_rfl
theorem cells_i64 : Tryz.prog.cellsOf 2 = 1 := by kernel_rfl
theorem cells_u32 : Tryz.prog.cellsOf 25 = 1 := by kernel_rfl
theorem cells_u8 : Tryz.prog.cellsOf 5 = 1 := by kernel_rfl
theorem cells_arr : Tryz.prog.cellsOf 27 = 16 := by kernel_rfl
section
variable {H : Type} {enc : TypeId × Value → H} {W : World} {base : Nat} {spare : Nat → Bool} {held : Bool}
theorem open_i64 {n : Nat} {c : Value} {y : Option (DataW H × List MemPlace)} (hy : y.isSome = true) (h : DataW.trod enc Tryz.prog W base spare held n 2 [c] = y) : ∃ a : Int, c = .int .i64 a ∧ I64 a := by
  obtain ⟨z, rfl⟩ := Option.isSome_iff_exists.1 hy
  obtain ⟨a, e, _, hw⟩ := DataW.trod_int Tryz.underlying2 h
  simp only [List.cons.injEq, and_true] at e
  exact ⟨a, e, bounds_i64 hw⟩
theorem open_u32 {n : Nat} {c : Value} {y : Option (DataW H × List MemPlace)} (hy : y.isSome = true) (h : DataW.trod enc Tryz.prog W base spare held n 25 [c] = y) : ∃ a : Int, c = .int .u32 a ∧ 0 ≤ a ∧ a ≤ 4294967295 := by
  obtain ⟨z, rfl⟩ := Option.isSome_iff_exists.1 hy
  obtain ⟨a, e, _, hw⟩ := DataW.trod_int Tryz.underlying25 h
  simp only [List.cons.injEq, and_true] at e
  exact ⟨a, e, bounds_u32 hw⟩
theorem open_u8 {n : Nat} {c : Value} {y : Option (DataW H × List MemPlace)} (hy : y.isSome = true) (h : DataW.trod enc Tryz.prog W base spare held n 5 [c] = y) : ∃ a : Int, c = .int .u8 a ∧ 0 ≤ a ∧ a ≤ 255 := by
  obtain ⟨z, rfl⟩ := Option.isSome_iff_exists.1 hy
  obtain ⟨a, e, _, hw⟩ := DataW.trod_int Tryz.underlying5 h
  simp only [List.cons.injEq, and_true] at e
  exact ⟨a, e, bounds_u8 hw⟩
set_option maxHeartbeats 2000000 in
set_option maxRecDepth 100000 in
theorem open_specL {fuel : Nat} {l : List Value} {y : DataW H × List MemPlace} (hl : l.length = 25) (hf : DataW.trod enc Tryz.prog W base spare held fuel 29 l = some y) : ∃ s : Sp, l = s.cellL ∧ s.ok := by
  match l, hl with
  | [c0, c1, c2, c3, c4, c5, x0, x1, x2, x3, x4, x5, x6, x7, x8, x9, x10, x11, x12, x13, x14, x15, c7, c8, c9], _ =>
    obtain ⟨xs, n, _, hx, _, hlen, hg⟩ := DataW.trod_struct Tryz.underlying29 hf
    have iss : ∀ i, i < 10 → (xs[i]?).isSome = true := fun i hi => by
      have h10 : xs.length = 10 := hlen
      rw [List.getElem?_eq_getElem (by omega)]; rfl
    have g0 := hg 0 _ rfl
    have g1 := hg 1 _ rfl
    have g2 := hg 2 _ rfl
    have g3 := hg 3 _ rfl
    have g4 := hg 4 _ rfl
    have g5 := hg 5 _ rfl
    have g6 := hg 6 _ rfl
    have g7 := hg 7 _ rfl
    have g8 := hg 8 _ rfl
    have g9 := hg 9 _ rfl
    obtain ⟨nu, rfl, k0⟩ := open_u32 (iss 0 (by omega)) g0
    obtain ⟨ro, rfl, k1⟩ := open_u8 (iss 1 (by omega)) g1
    obtain ⟨ti, rfl, k2⟩ := open_i64 (iss 2 (by omega)) g2
    obtain ⟨lo, rfl, k3⟩ := open_i64 (iss 3 (by omega)) g3
    obtain ⟨ba, rfl, k4⟩ := open_i64 (iss 4 (by omega)) g4
    obtain ⟨li, rfl, k5⟩ := open_i64 (iss 5 (by omega)) g5
    obtain ⟨cr, rfl, k7⟩ := open_i64 (iss 7 (by omega)) g7
    obtain ⟨la, rfl, k8⟩ := open_u32 (iss 8 (by omega)) g8
    obtain ⟨fi, rfl, k9⟩ := open_i64 (iss 9 (by omega)) g9
    have g6' : DataW.trod enc Tryz.prog W base spare held n 27 [x0, x1, x2, x3, x4, x5, x6, x7, x8, x9, x10, x11, x12, x13, x14, x15] = xs[6]? := g6
    obtain ⟨z6, hz6⟩ := Option.isSome_iff_exists.1 (iss 6 (by omega))
    rw [hz6] at g6'
    obtain ⟨ys, m, _, _, _, hyl, hi⟩ := DataW.trod_array Tryz.underlying27 g6'
    have isy : ∀ i, i < 16 → (ys[i]?).isSome = true := fun i hi => by
      rw [List.getElem?_eq_getElem (by omega)]; rfl
    have e0 : DataW.trod enc Tryz.prog W base spare held m 2 [x0] = ys[0]? := hi 0 (by omega)
    obtain ⟨s0, rfl, q0⟩ := open_i64 (isy 0 (by omega)) e0
    have e1 : DataW.trod enc Tryz.prog W base spare held m 2 [x1] = ys[1]? := hi 1 (by omega)
    obtain ⟨s1, rfl, q1⟩ := open_i64 (isy 1 (by omega)) e1
    have e2 : DataW.trod enc Tryz.prog W base spare held m 2 [x2] = ys[2]? := hi 2 (by omega)
    obtain ⟨s2, rfl, q2⟩ := open_i64 (isy 2 (by omega)) e2
    have e3 : DataW.trod enc Tryz.prog W base spare held m 2 [x3] = ys[3]? := hi 3 (by omega)
    obtain ⟨s3, rfl, q3⟩ := open_i64 (isy 3 (by omega)) e3
    have e4 : DataW.trod enc Tryz.prog W base spare held m 2 [x4] = ys[4]? := hi 4 (by omega)
    obtain ⟨s4, rfl, q4⟩ := open_i64 (isy 4 (by omega)) e4
    have e5 : DataW.trod enc Tryz.prog W base spare held m 2 [x5] = ys[5]? := hi 5 (by omega)
    obtain ⟨s5, rfl, q5⟩ := open_i64 (isy 5 (by omega)) e5
    have e6 : DataW.trod enc Tryz.prog W base spare held m 2 [x6] = ys[6]? := hi 6 (by omega)
    obtain ⟨s6, rfl, q6⟩ := open_i64 (isy 6 (by omega)) e6
    have e7 : DataW.trod enc Tryz.prog W base spare held m 2 [x7] = ys[7]? := hi 7 (by omega)
    obtain ⟨s7, rfl, q7⟩ := open_i64 (isy 7 (by omega)) e7
    have e8 : DataW.trod enc Tryz.prog W base spare held m 2 [x8] = ys[8]? := hi 8 (by omega)
    obtain ⟨s8, rfl, q8⟩ := open_i64 (isy 8 (by omega)) e8
    have e9 : DataW.trod enc Tryz.prog W base spare held m 2 [x9] = ys[9]? := hi 9 (by omega)
    obtain ⟨s9, rfl, q9⟩ := open_i64 (isy 9 (by omega)) e9
    have e10 : DataW.trod enc Tryz.prog W base spare held m 2 [x10] = ys[10]? := hi 10 (by omega)
    obtain ⟨s10, rfl, q10⟩ := open_i64 (isy 10 (by omega)) e10
    have e11 : DataW.trod enc Tryz.prog W base spare held m 2 [x11] = ys[11]? := hi 11 (by omega)
    obtain ⟨s11, rfl, q11⟩ := open_i64 (isy 11 (by omega)) e11
    have e12 : DataW.trod enc Tryz.prog W base spare held m 2 [x12] = ys[12]? := hi 12 (by omega)
    obtain ⟨s12, rfl, q12⟩ := open_i64 (isy 12 (by omega)) e12
    have e13 : DataW.trod enc Tryz.prog W base spare held m 2 [x13] = ys[13]? := hi 13 (by omega)
    obtain ⟨s13, rfl, q13⟩ := open_i64 (isy 13 (by omega)) e13
    have e14 : DataW.trod enc Tryz.prog W base spare held m 2 [x14] = ys[14]? := hi 14 (by omega)
    obtain ⟨s14, rfl, q14⟩ := open_i64 (isy 14 (by omega)) e14
    have e15 : DataW.trod enc Tryz.prog W base spare held m 2 [x15] = ys[15]? := hi 15 (by omega)
    obtain ⟨s15, rfl, q15⟩ := open_i64 (isy 15 (by omega)) e15
    refine ⟨⟨nu, ro, ti, lo, ba, li, [s0, s1, s2, s3, s4, s5, s6, s7, s8, s9, s10, s11, s12, s13, s14, s15], cr, la, fi⟩, rfl, ⟨k0, k1, k2, k3, k4, k5, rfl, ?_, k7, k8, k9⟩⟩
    intro x hx
    simp only [List.mem_cons, List.not_mem_nil, or_false] at hx
    rcases hx with rfl | rfl | rfl | rfl | rfl | rfl | rfl | rfl | rfl | rfl | rfl | rfl | rfl | rfl | rfl | rfl
    · exact q0
    · exact q1
    · exact q2
    · exact q3
    · exact q4
    · exact q5
    · exact q6
    · exact q7
    · exact q8
    · exact q9
    · exact q10
    · exact q11
    · exact q12
    · exact q13
    · exact q14
    · exact q15
set_option maxRecDepth 100000 in
theorem open_spec {r : Reach} {b0 : Nat} {v : Value} {d : DataW H} {p : List MemPlace} (hv : Value.okWide Tryz.prog W r b0 29 v) (h : DataW.Trod enc Tryz.prog W base spare held 29 v d p) : ∃ s : Sp, v = .agg s.cells ∧ s.ok := by
  obtain ⟨cs, rfl, hsz⟩ := okWide_struct Tryz.underlying29 hv
  obtain ⟨l⟩ := cs
  obtain ⟨fuel, hf⟩ := h
  obtain ⟨s, rfl, ok⟩ := open_specL (hsz.trans cells_sp) hf
  exact ⟨s, rfl, ok⟩
end
end Go.Proofs.YtbmlpokkojhhjaaGreat
/- Plain facts on lists of bytes in memory, as text, and on the forms of numbers. -/
namespace Go.Proofs.YtbmlpokkojhhjaaGreat
open Go.RowKit

/-- A list of bytes that stands in memory. -/
def RdB (w : World) (A : Option Addr) (n : Nat) (bs : List Int) : Prop :=
  bs.length = n ∧ (0 < n → ∃ b o, A = some ⟨b, o, none⟩ ∧ ∀ j, j < n → w.cell? ⟨b, o + j, none⟩ = some (.int .u8 (bs.getD j 0)))
theorem RdB.below {w w' : World} {A : Option Addr} {n : Nat} {bs : List Int} (h : RdB w A n bs) (b : Below w.heap.size w w') : RdB w' A n bs :=
  ⟨h.1, fun hn => by
    obtain ⟨g, o, e, hc⟩ := h.2 hn
    exact ⟨g, o, e, fun j hj => (b.cell (p := ⟨g, o + j, none⟩) (World.block_lt_of_cell? w _ (hc j hj))).trans (hc j hj)⟩⟩
theorem rdb_none (w : World) : RdB w none 0 [] := ⟨rfl, fun h => absurd h (Nat.lt_irrefl 0)⟩

/-- The text of a list of bytes. -/
theorem str_append (a b : List Int) : strOfNums (a ++ b) = strOfNums a ++ strOfNums b := by
  simp [strOfNums, ByteArray.ext_iff]
theorem str_len (a : List Int) : (strOfNums a).size = a.length := strOfNums_size a
def By (a : List Int) : Prop := ∀ x, x ∈ a → 0 ≤ x ∧ x ≤ 255
theorem str_inj {a b : List Int} (ha : By a) (hb : By b) (h : strOfNums a = strOfNums b) : a = b := by
  have e : a.map (fun n => UInt8.ofNat n.toNat) = b.map fun n => UInt8.ofNat n.toNat := by
    rw [← strOfNums_data, ← strOfNums_data, h]
  clear h
  induction a generalizing b with
  | nil => cases b with
    | nil => rfl
    | cons y b => simp at e
  | cons x a ih => cases b with
    | nil => simp at e
    | cons y b =>
      simp only [List.map_cons, List.cons.injEq] at e
      have hx := ha x (by simp)
      have hy := hb y (by simp)
      have e1 : x = y := by
        have := congrArg UInt8.toNat e.1
        simp only [UInt8.toNat_ofNat'] at this
        omega
      rw [e1, ih (fun z hz => ha z (by simp [hz])) (fun z hz => hb z (by simp [hz])) e.2]
theorem conv_any {w : World} {A : Option Addr} {n c : Nat} {bs : List Int} (h : RdB w A n bs) : (convert 22 9 (.slice A n c)).run Tryz.prog w = .ok (.string (strOfNums bs)) w := by
  rcases Nat.eq_zero_or_pos n with e | e
  · subst e
    have : bs = [] := List.eq_nil_of_length_eq_zero h.1
    subst this
    cases A with
    | none => exact run_convert_bytes_nil w 22 5 Tryz.underlying22 Tryz.underlying5 0 c 9 Tryz.underlying9
    | some a => exact run_convert_bytes_back w 22 9 5 a c [] Tryz.underlying22 Tryz.underlying5 Tryz.underlying9 (fun j hj => absurd hj (Nat.not_lt_zero j))
  · obtain ⟨b, o, rfl, hc⟩ := h.2 e
    exact run_convert_bytes_arg (P := Tryz.prog) w 22 5 Tryz.underlying22 Tryz.underlying5 b o n c bs h.1 hc 9 Tryz.underlying9

/-- A natural number's form. -/
def nb (n : Nat) : List Int := if _h : n < 128 then [(n : Int)] else (((n % 128 : Nat) : Int) + 128) :: nb (n / 128)
termination_by n
theorem nb_small {n : Nat} (h : n < 128) : nb n = [(n : Int)] := by rw [nb, dif_pos h]
theorem nb_big {n : Nat} (h : 128 ≤ n) : nb n = (((n % 128 : Nat) : Int) + 128) :: nb (n / 128) := by rw [nb, dif_neg (by omega)]
/-- A whole number's form; a flag's; a text's. -/
def ib (n : Int) : List Int := if 0 ≤ n then nb (2 * n).toNat else nb (2 * (-(n + 1)) + 1).toNat
def fb (f : Bool) : List Int := if f then [1] else [0]
def tb (bs : List Int) : List Int := nb bs.length ++ bs
theorem nb_pos : ∀ n, 0 < (nb n).length := fun n => by
  by_cases h : n < 128
  · rw [nb_small h]; exact Nat.one_pos
  · rw [nb_big (by omega)]; simp
theorem nb_by (n : Nat) : By (nb n) := by
  induction n using Nat.strongRecOn with
  | _ n ih =>
    by_cases h : n < 128
    · rw [nb_small h]
      intro x hx
      simp at hx
      omega
    · rw [nb_big (by omega)]
      intro x hx
      rcases List.mem_cons.1 hx with rfl | hx
      · omega
      · exact ih (n / 128) (by omega) x hx
theorem nb_len : ∀ (k : Nat) (n : Nat), n < 128 ^ (k + 1) → (nb n).length ≤ k + 1
  | 0, n, h => by rw [nb_small (by simpa using h)]; simp
  | k + 1, n, h => by
    by_cases h1 : n < 128
    · rw [nb_small h1]; simp
    · rw [nb_big (by omega)]
      have := nb_len k (n / 128) (by rw [Nat.pow_succ] at h; omega)
      simp; omega
theorem nb_ten {n : Nat} (h : n < 18446744073709551616) : (nb n).length ≤ 10 := nb_len 9 n (Nat.lt_of_lt_of_le h (by decide))

theorem info_u8 : (Tryz.prog.info? 5).map (fun i => (i.zero, i.size, i.bytes)) = some (some (.int .u8 0), 1, 1) := by kernel_rfl
/-- A list of bytes in memory that is new since w0. -/
structure New (w0 W : World) (v : Value) (bs : List Int) : Prop where
  o : W.ownsRow w0.heap.size 5 1 v bs.length (bs.map (Value.int .u8))
  q : Below w0.heap.size w0 W
theorem New.rd {w0 W : World} {v : Value} {bs : List Int} (h : New w0 W v bs) : ∃ A c, v = .slice A bs.length c ∧ RdB W A bs.length bs := by
  rcases h.o.2 with ⟨e1, e2⟩ | ⟨g, cap, cur, e1, _, _⟩
  · exact ⟨none, 0, by rw [e1, e2], rfl, fun hn => absurd hn (by omega)⟩
  · have o := h.o
    rw [e1] at o
    refine ⟨some ⟨g, 0, none⟩, cap, e1, rfl, fun _ => ⟨g, 0, rfl, fun j hj => ?_⟩⟩
    rw [Nat.zero_add, o.cellAt j (by omega)]
    simp [List.getD, hj]
theorem New.below {w0 W W' : World} {v : Value} {bs : List Int} (h : New w0 W v bs) (b : Below W.heap.size W W') : New w0 W' v bs :=
  ⟨h.o.kept (row := none) ⟨b.os, b.tape, b.output, b.size, fun i hi _ => b.block i hi⟩ (by cases v.ownBlock <;> simp), h.q.trans (b.mono h.q.size)⟩
theorem news_rd {W : World} {a : Addr} {n : Nat} {bs : List Int} (h : RdB W (some a) n bs) : ∀ j u, (bs.map (Value.int .u8))[j]? = some u → W.cell? (a.add j) = some u := by
  intro j u hj
  have hjl : j < bs.length := by have := (List.getElem?_eq_some_iff.1 hj).1; simpa using this
  obtain ⟨b, o, e, hc⟩ := h.2 (by have := h.1; omega)
  cases e
  rw [Addr.add_mid, hc j (by have := h.1; omega), ← hj]
  simp [List.getD, hjl]
theorem one_u8 (bs : List Int) : ∀ u ∈ bs.map (Value.int .u8), u.oneCell' = true := by
  intro u hu
  obtain ⟨z, _, rfl⟩ := List.mem_map.1 hu
  rfl
end Go.Proofs.YtbmlpokkojhhjaaGreat
