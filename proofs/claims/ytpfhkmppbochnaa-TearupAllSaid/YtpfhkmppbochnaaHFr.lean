/- Frames: which blocks, which cells have turned; no program's function, no program's type. -/
import Derived.WalkKit
import Derived.Lib.Hide
import Derived.Lib.Walk
import Derived.Deep.AppendLies
import Derived.Deep.MidRow
import Derived.BigQuiet
import Derived.WalkSmall
import Derived.RangeFuncKeeps
import Derived.RangeFuncNested
import Derived.OwnWalkIn
import Derived.TacticsInMore
import Derived.LoopNIn
import Derived.LoopIn
import Derived.Test.YtpfhkmppbochnaaProg
namespace Go.Proofs.Ytpfhkmppbochnaa
open Go.RowKit
set_option linter.unusedVariables false

/-- Only blocks of S, and new ones, have turned. -/
structure Fr (S : Nat → Prop) (W W' : World) : Prop where
  b0 : Below 0 W W'
  at' : ∀ k, k < W.heap.size → ¬ S k → W'.heap[k]? = W.heap[k]?
theorem Fr.refl (S : Nat → Prop) (W : World) : Fr S W W := ⟨Below.refl 0 W, fun _ _ _ => rfl⟩
theorem Fr.trans {S T U : Nat → Prop} {a b c : World} (h : Fr S a b) (k : Fr T b c) (hS : ∀ k, S k → U k) (hT : ∀ k, k < a.heap.size → T k → U k) : Fr U a c :=
  ⟨h.b0.trans k.b0, fun i hi hn => (k.at' i (Nat.lt_of_lt_of_le hi h.b0.size) fun ht => hn (hT i hi ht)).trans (h.at' i hi fun hs => hn (hS i hs))⟩
theorem Fr.same {S : Nat → Prop} {a b c : World} (h : Fr S a b) (k : Fr S b c) : Fr S a c := h.trans k (fun _ h => h) (fun _ _ h => h)
theorem Fr.mono {S T : Nat → Prop} {a b : World} (h : Fr S a b) (hS : ∀ k, S k → T k) : Fr T a b := ⟨h.b0, fun i hi hn => h.at' i hi fun hs => hn (hS i hs)⟩
theorem Fr.below {S : Nat → Prop} {a b : World} (h : Below a.heap.size a b) : Fr S a b := ⟨h.mono (Nat.zero_le _), fun i hi _ => h.block i hi⟩
theorem Fr.set {S : Nat → Prop} {W : World} {p : Addr} (hp : S p.block) (u : Value) : Fr S W (W.setCell p u) :=
  ⟨(Below.refl 0 W).setCell (Nat.zero_le _) u, fun i _ hn => heap_setCell_other W p i u fun e => hn (e ▸ hp)⟩
theorem Fr.grown {S : Nat → Prop} {W W' : World} {row : Option Nat} (h : W.grownBy W' row) (hS : ∀ k, row = some k → S k) : Fr S W W' :=
  ⟨(Below.refl 0 W).grown h (Nat.zero_le _) (fun _ _ => Nat.zero_le _), fun i hi hn => h.block i hi fun e => hn (hS i e.symm)⟩
theorem Fr.size {S : Nat → Prop} {a b : World} (h : Fr S a b) : a.heap.size ≤ b.heap.size := h.b0.size

theorem Fr.drewN {S : Nat → Prop} {a b : World} (h : Fr S a b) (n : Nat) : Fr S a (b.drewN n) := ⟨below_drewN h.b0 n, h.at'⟩
theorem Fr.out {w W : World} (h : Fr (fun _ => False) w W) : Below w.heap.size w W := ⟨h.b0.os, h.b0.tape, h.b0.output, h.b0.size, fun k hk => h.at' k hk id⟩
/-- What a round may turn: of the cells that are there those of S alone (S hangs on the world: a list that grows lies elsewhere then); what is new is its own. -/
def Kc (S : World → Nat → Prop) (A B : World) : Prop :=
  (∀ k, S A k → k < A.heap.size) → (∀ k, S B k → k < B.heap.size) ∧ (∀ k, S B k → S A k ∨ A.heap.size ≤ k) ∧ Below 0 A B ∧ ∀ k, k < A.heap.size → ¬ S A k → (∃ cs t f, A.heap[k]? = some (.cells cs t f)) → B.heap[k]? = A.heap[k]?
theorem Kc.trans {S : World → Nat → Prop} {A B C : World} (h : Kc S A B) (k : Kc S B C) : Kc S A C := fun wf => by
  obtain ⟨h1, h2, h3, h4⟩ := h wf
  obtain ⟨k1, k2, k3, k4⟩ := k h1
  refine ⟨k1, fun j hj => ?_, h3.trans k3, fun j hj hn hc => ?_⟩
  · rcases k2 j hj with c | c
    · exact h2 j c
    · exact .inr (Nat.le_trans h3.size c)
  · have e := h4 j hj hn hc
    refine (k4 j (Nat.lt_of_lt_of_le hj h3.size) (fun c => ?_) (by rw [e]; exact hc)).trans e
    rcases h2 j c with c | c
    · exact hn c
    · omega
/-- S is told by blocks below N. -/
def Still (S : World → Nat → Prop) (N : Nat) : Prop := ∀ A B : World, N ≤ A.heap.size → (∀ k, k < N → B.heap[k]? = A.heap[k]?) → ∀ k, S B k → S A k
theorem Still.const (S : Nat → Prop) (N : Nat) : Still (fun _ => S) N := fun _ _ _ _ _ h => h
theorem Kc.below {S : World → Nat → Prop} {N : Nat} (st : Still S N) {A B : World} (hN : N ≤ A.heap.size) (q : Below A.heap.size A B) : Kc S A B := fun wf =>
  have s := st A B hN (fun k hk => q.block k (by omega))
  ⟨fun k h => Nat.lt_of_lt_of_le (wf k (s k h)) q.size, fun k h => .inl (s k h), q.mono (Nat.zero_le _), fun k hk _ _ => q.block k hk⟩
theorem Kc.put {S : World → Nat → Prop} {N : Nat} (st : Still S N) {W : World} {l : Nat} {o o' : Obj} (hl : N ≤ l) (ho : W.heap[l]? = some o) (hc : o.isCells = false) : Kc S W (W.putObj l o') := fun wf => by
  have hlt := (Array.getElem?_eq_some_iff.1 ho).1
  have g := grownBy_putObj' W l o'
  have s := st W (W.putObj l o') (by omega) (fun k hk => g.block k (by omega) (fun e => by cases e; omega))
  refine ⟨fun k h => Nat.lt_of_lt_of_le (wf k (s k h)) g.size, fun k h => .inl (s k h), (Below.refl 0 W).grown g (Nat.zero_le _) (fun _ _ => Nat.zero_le _), fun _ hk _ ⟨cs, t, f, e⟩ => g.block _ hk (fun c => ?_)⟩
  cases c
  rw [e] at ho
  cases ho
  cases hc
theorem Kc.fr {S : Nat → Prop} {A B : World} (h : Fr S A B) : Kc (fun _ => S) A B := fun wf => ⟨fun k hk => Nat.lt_of_lt_of_le (wf k hk) h.size, fun k hk => .inl hk, h.b0, fun k hk hn _ => h.at' k hk hn⟩
/-- A variable, and the row that it holds. -/
def Sv (b : Nat) (A : World) (k : Nat) : Prop := k = b ∨ ∃ a n c, A.cell? ⟨b, 0, none⟩ = some (.slice (some a) n c) ∧ a.block = k
theorem Still.var {b N : Nat} (h : b < N) : Still (Sv b) N := fun A B _ hk k hs => by
  refine hs.imp id fun ⟨a, n, c, e, hb⟩ => ⟨a, n, c, ?_, hb⟩
  rw [← e]
  exact (World.cell?_of_block (hk b h)).symm
theorem rng_below {w W : World} {b o B : Nat} {l : List Value} (h : w.rangeAt b o l) (q : Below B w W) (hB : w.heap.size ≤ B) : W.rangeAt b o l := fun j u hj => by
  have hc := h j u hj
  have hb : b < w.heap.size := by
    unfold World.cell? at hc
    rcases Nat.lt_or_ge b w.heap.size with c | c
    · exact c
    · rw [Array.getElem?_eq_none c] at hc
      cases hc
  unfold World.cell? at hc ⊢
  rw [q.block b (by omega)]
  exact hc
theorem cell_below {w W : World} {b o B : Nat} {v : Value} (hc : w.cell? ⟨b, o, none⟩ = some v) (q : Below B w W) (hB : w.heap.size ≤ B) : W.cell? ⟨b, o, none⟩ = some v := by
  have hb : b < w.heap.size := by
    unfold World.cell? at hc
    rcases Nat.lt_or_ge b w.heap.size with c | c
    · exact c
    · rw [Array.getElem?_eq_none c] at hc
      cases hc
  unfold World.cell? at hc ⊢
  rw [q.block b (by omega)]
  exact hc
theorem below_new (w : World) (o : Obj) : Below w.heap.size w (w.alloc o) := (Below.refl w.heap.size w).alloc (Nat.le_refl _) o
section
variable {P : Program} {n : Nat} {ops : Array Oper} {Q : Exit → Act → World → Prop}
theorem rows_wide {row : String} {args : Array Value} {w : World} {R : Value → World → Prop} (h : Rows P row args w R) : RowsIn Fence.wide n P row args w R :=
  fun c cs _ => let ⟨v, w', r, s⟩ := h c cs; ⟨v, w', r, stepsIn_wide.2 s⟩
theorem op_wide {o : Oper} {a : Act} {w : World} {next : Act → World → Prop} (hd : ∀ c, o.op ≠ .defer c) (h : o.wp P a w next Q) : o.wpIn Fence.wide n P a w next Q := by
  refine ⟨fun _ _ => trivial, ?_⟩
  rw [Oper.semAt_plain _ _ _ hd]
  unfold Oper.wp at h
  generalize (execOp a.eval o).run P w = r at h ⊢
  cases r with
  | ok v w' => cases v with
    | value v => exact h
    | skip => exact h
    | defer d => exact h
    | enter f args =>
      refine ⟨fun c => ?_, callsIn_wide.2 (Calls.mono h ?_)⟩
      · cases c
      · intro e w2 q
        cases e <;> exact q
    | row row args =>
      refine ⟨fun c => ?_, rows_wide h⟩
      cases c
    | _ => exact h.elim
  | halt x w' => cases x <;> first | exact h | exact h.elim
end
theorem grown_of {w w' : World} (q : Below w.heap.size w w') : w.grownBy w' none := ⟨q.os, q.tape, q.output, q.size, fun k hk _ => q.block k hk⟩
end Go.Proofs.Ytpfhkmppbochnaa
