/- Iterators that keep cells of their own from round to round: their promise, and the rule of a range over one; no program's function, no program's type. -/
import Derived.Test.YthnmpnepgagmmaaFr
import Derived.RangeFuncNested
namespace Go.Proofs.Ythnmpnepgagmmaa
open Go.RowKit
set_option linter.unusedVariables false

/-- What hangs on blocks below B, and on the cells that S names, alone. -/
def Calm {β : Type} (B : Nat) (S : World → Nat → Prop) (J : β → World → Prop) : Prop :=
  ∀ s A C, J s A → Below B A C → (∀ k, S A k → (∃ cs t f, A.heap[k]? = some (.cells cs t f)) → C.heap[k]? = A.heap[k]?) → J s C
section
variable {β : Type} {B B' : Nat} {S : World → Nat → Prop} {J : β → World → Prop} {s : β} {W W' : World}
theorem Calm.up (h : Calm B S J) (hB : B ≤ B') : Calm B' S J := fun s A C hj b k => h s A C hj (b.mono hB) k
theorem Calm.put (h : Calm B S J) {l : Nat} {o : Obj} (o' : Obj) (hl : B ≤ l) (ho : W.heap[l]? = some o) (hc : o.isCells = false) (hj : J s W) : J s (W.putObj l o') := by
  have g := grownBy_putObj' W l o'
  refine h s W _ hj ((Below.refl B W).grown g (Nat.le_trans hl (Nat.le_of_lt (Array.getElem?_eq_some_iff.1 ho).1)) (fun k e => by cases e; exact hl)) (fun k _ hk => ?_)
  obtain ⟨cs, t, f, e⟩ := hk
  refine g.block k (Array.getElem?_eq_some_iff.1 e).1 (fun c => ?_)
  cases c
  rw [e] at ho
  cases ho
  cases hc
theorem Calm.grow (h : Calm B S J) (hB : B ≤ W.heap.size) (q : Below W.heap.size W W') (hj : J s W) : J s W' :=
  h s W W' hj (q.mono hB) (fun k _ hk => by
    obtain ⟨cs, t, f, e⟩ := hk
    exact q.block k (Array.getElem?_eq_some_iff.1 e).1)
theorem Calm.and {J' : β → World → Prop} (h : Calm B S J) (h' : Calm B S J') : Calm B S (fun s W => J s W ∧ J' s W) := fun s A C hj b k => ⟨h s A C hj.1 b k, h' s A C hj.2 b k⟩
theorem calm_at {o : Obj} {k : Nat} (hk : k < B) : Calm B S (fun (_ : β) W => W.heap[k]? = some o) := fun _ A C hj b _ => (b.block k hk).trans hj
theorem calm_pure (p : β → Prop) : Calm B S (fun s _ => p s) := fun _ _ _ h _ _ => h
end
/-- An iterator's promise: called later on, at whatever loop: with whatever hangs on what lay there, and on the cells that S names, alone, it calls the rounds one after the other; what a round may turn is Kc S. -/
def SeqC {α : Type} (F : Fence) (n : Nat) (P : Program) (g : Nat) (lb : Array Value) (encs : α → Array Value) (S : World → Nat → Prop) (Sd Sp : List α → Prop) (N : Nat) (w : World) : Prop :=
  ∀ (l : Nat) (J Jx : List α → World → Prop) (W : World), Below w.heap.size w W → Calm W.heap.size S J → Calm W.heap.size S Jx →
    (∀ pre x W1, J pre W1 → pre.length < N → YieldAt F (n - 1) P l (encs x) W1 fun e W' =>
      (e = .returned (.bool true) ∧ J (pre ++ [x]) W' ∧ Kc S W1 W') ∨ (e = .returned (.bool false) ∧ Jx (pre ++ [x]) W')) →
    J [] W →
    CallsIn F n P g (#[.func (.yield l) #[] #[]] ++ lb) W fun e W' => (∃ v, e = .returned v) ∧ ((∃ xs, Sd xs ∧ J xs W') ∨ (∃ pre, Sp pre ∧ Jx pre W'))
/-- The two blocks of a loop's own. -/
structure Books (d l : Nat) (r : Loop) (W : World) : Prop where
  lo : W.heap[l]? = some (.loop r)
  de : W.heap[d]? = some (.deferred (some []))
theorem Books.turn {d l : Nat} {r r' : Loop} {W : World} (h : Books d l r W) (hne : d ≠ l) : Books d l r' (W.putObj l (.loop r')) :=
  ⟨World.putObj_heap_same (Array.getElem?_eq_some_iff.1 h.lo).1, (World.putObj_heap_other hne).trans h.de⟩
theorem Books.kept {d l B : Nat} {r : Loop} {W W' : World} (h : Books d l r W) (k : KeepsFrom B W W') (h1 : B ≤ d) (h2 : B ≤ l) : Books d l r W' :=
  ⟨k.same l _ h2 h.lo rfl, k.same d _ h1 h.de rfl⟩
theorem Books.calm {β : Type} {d l B : Nat} {S : World → Nat → Prop} {r : Loop} (h1 : d < B) (h2 : l < B) : Calm B S (fun (_ : β) W => Books d l r W) := fun _ A C hj b _ => ⟨(b.block l h2).trans hj.lo, (b.block d h1).trans hj.de⟩
section
variable {α : Type} {P : Program} {n : Nat} {g : Operand} {ps : Array Tmp} {assign body : Code} {Q : Exit → Act → World → Prop} {a : Act} {w : World} {gf : Nat} {lb : Array Value} {encs : α → Array Value} {S : World → Nat → Prop} {Sd Sp : List α → Prop} {N : Nat}
/-- What a round leaves, whichever way it goes. -/
def WaysC (w : World) (S : World → Nat → Prop) (I : List α → World → Prop) (Ix : Code → List α → World → Prop) (xs : List α) (W : World) : Exit → Act → World → Prop := ownPostG w.heap.size (Kc S) I Ix xs W
/-- The rule: a range over such an iterator, in no other such loop. -/
theorem range_calm (h1 : 1 ≤ n) (hg : a.eval g = .func (.func gf) #[] lb) (eg : ∀ args w, (callFunc gf args).run P w = .ok (.enter gf args) w) (st : Still S w.heap.size)
    (hseq : SeqC Fence.wide (n - 1) P gf lb encs S Sd Sp N w) (hps : ∀ x, (encs x).size = ps.size)
    (I : List α → World → Prop) (Ix : Code → List α → World → Prop) (hI : Calm w.heap.size S I) (hIx : ∀ c, Calm w.heap.size S (Ix c)) (h0 : I [] w)
    (Ax : α → Act → World → Prop) (hAx : ∀ x a' W (l : Nat) (o o' : Obj), Ax x a' W → w.heap.size ≤ l → W.heap[l]? = some o → o.isCells = false → Ax x a' (W.putObj l o'))
    (hassign : ∀ (l : Nat) (pre : List α) (x : α) (W : World) (K : Act → World → Prop), I pre W → (∀ a' W', KeepsFrom w.heap.size W W' → Kc S W W' → I pre W' → Ax x a' W' → K a' W') →
      assign.wpIn (Fence.wide.inRound l) (n - 1 - 1) P (Exit.then K (fun _ _ _ => False)) { tmps := (ps.zip (encs x)).foldl (fun t (p, v) => t.setIfInBounds p v) a.tmps, defers := [] } W)
    (hbody : ∀ (l : Nat) (pre : List α) (x : α) (a' : Act) (W : World), w.heap.size ≤ l → (∃ r, W.heap[l]? = some (.loop r)) → I pre W → Ax x a' W → pre.length < N → body.wpIn (Fence.wide.inRound l) (n - 1 - 1) P (ownPostG w.heap.size (Kc S) I Ix (pre ++ [x]) W) a' W)
    (hdone : ∀ (D : Nat) (xs : List α) (W : World), w.heap.size ≤ D → Sd xs → I xs W → W.heap[D]? = some (.deferred (some [])) → Q .normal { a with defers := { target := .collected D, args := #[] } :: a.defers } W)
    (hstop : ∀ (D : Nat) (c : Code) (pre : List α) (W : World), w.heap.size ≤ D → Sp pre → Ix c pre W → W.heap[D]? = some (.deferred (some [])) → c.wpIn Fence.wide n P Q { a with defers := { target := .collected D, args := #[] } :: a.defers } W) :
    (Code.rangeFunc g ps assign body).wpIn Fence.wide n P Q a w := by
  refine wpIn_rangeFunc fun fn hfn => ?_
  show ∃ l mark w₁ d w₁' f args w₂, (Instr.enterLoop fn a.tmps ps assign body none).run P w = .ok (l, mark) w₁ ∧ _
  obtain ⟨R, hR⟩ : ∃ R : LoopState → Option Code → Loop, R = fun st pe => { state := st, pending := pe, fn, tmps := a.tmps, params := ps, assign, body, defers := w.heap.size } := ⟨_, rfl⟩
  obtain ⟨V, hV⟩ : ∃ V, (w.alloc (.deferred (some []))).alloc (.loop (R .ready none)) = V := ⟨_, rfl⟩
  have bk : Books w.heap.size (w.heap.size + 1) (R .ready none) V := by
    rw [← hV]
    exact ⟨heap_alloc2_new w _ _, heap_alloc2_old w _ _⟩
  have bV : Below w.heap.size w V := by rw [← hV]; exact ((Below.refl _ w).alloc (Nat.le_refl _) _).alloc (by simp) _
  have sV : V.heap.size = w.heap.size + 2 := by rw [← hV]; simp
  have iV : I [] V := hI.grow (Nat.le_refl _) bV h0
  refine ⟨w.heap.size + 1, [{ target := .collected w.heap.size, args := #[] }], V, { target := .fn (.func gf) lb, args := #[.func (.yield (w.heap.size + 1)) #[] #[]] }, V, gf, #[.func (.yield (w.heap.size + 1)) #[] #[]] ++ lb, V, ?_, ?_, fun _ _ => trivial, ?_, fun _ => h1, ?_⟩
  · rw [← hV, hR]; exact run_enterLoop_outer _ _ _ _ _
  · simp only [resolve, hg]
    simp [go_sem]
  · simp [invoke, go_sem, eg]
  have up : w.heap.size ≤ V.heap.size := bV.size
  have hd : w.heap.size < V.heap.size := by omega
  have hl : w.heap.size + 1 < V.heap.size := by omega
  have ne : w.heap.size ≠ w.heap.size + 1 := by omega
  refine (hseq (w.heap.size + 1)
    (fun pre W => I pre W ∧ Books w.heap.size (w.heap.size + 1) (R .ready none) W)
    (fun pre W => ∃ c, Ix c pre W ∧ Books w.heap.size (w.heap.size + 1) (R .done (some c)) W)
    V bV ((hI.up up).and (Books.calm hd hl))
    (fun s A C hj b k => by
      obtain ⟨c, h2, h3⟩ := hj
      exact ⟨c, (hIx c).up up s A C h2 b k, Books.calm (S := S) (β := List α) hd hl s A C h3 b k⟩)
    ?_ ⟨iV, bk⟩).mono ?_
  · rintro pre x W ⟨hi, hb⟩ hlen
    have hy := run_yield (P := P) (args := encs x) hb.lo (by rw [hR]; exact hps x)
    rw [hR] at hy
    refine ⟨fn, _, assign, body, hy, roundIn_of_wpIn hfn (hassign _ pre x W _ hi ?_)⟩
    clear hy
    intro a' Wa ka kc ia ax
    have ba := hb.kept ka (Nat.le_refl _) (by omega)
    have kb := Kc.put (W := Wa) (o' := .loop { R .ready none with state := .busy }) st (show w.heap.size ≤ w.heap.size + 1 by omega) ba.lo rfl
    have bb : Books w.heap.size (w.heap.size + 1) { R .ready none with state := .busy } (Wa.putObj (w.heap.size + 1) (.loop { R .ready none with state := .busy })) := ba.turn ne
    refine ⟨_, run_beginRound ba.lo (by rw [hR]), ?_⟩
    refine wpIn_mono (hbody _ pre x a' _ (by omega) ⟨_, bb.lo⟩ (hI.put _ (by omega) ba.lo rfl ia) (hAx x a' _ _ _ _ ax (by omega) ba.lo rfl) hlen) ?_
    have fin : ∀ (jump : Option Code) (W3 : World), KeepsFrom w.heap.size (Wa.putObj (w.heap.size + 1) (.loop { R .ready none with state := .busy })) W3 →
        ∃ r0 : Loop, W3.heap[w.heap.size + 1]? = some (.loop r0) ∧ (Instr.endRound (w.heap.size + 1) jump).run P W3 = .ok (.bool jump.isNone) (W3.putObj (w.heap.size + 1) (.loop (R (if jump.isNone then .ready else .done) jump))) ∧
        Books w.heap.size (w.heap.size + 1) (R (if jump.isNone then .ready else .done) jump) (W3.putObj (w.heap.size + 1) (.loop (R (if jump.isNone then .ready else .done) jump))) := fun jump W3 k3 => by
      have b3 := bb.kept k3 (Nat.le_refl _) (by omega)
      have e := run_endRound (P := P) jump b3.lo
      rw [hR] at e ⊢
      refine ⟨_, b3.lo, e, ?_⟩
      rw [hR] at b3
      exact b3.turn ne
    rintro e a3 W3 hp
    cases e with
    | normal =>
      obtain ⟨k3, c3, i3⟩ := hp
      obtain ⟨r0, l3, e3, b4⟩ := fin none W3 k3
      exact ⟨_, _, e3, .inl ⟨rfl, ⟨hI.put _ (by omega) l3 rfl i3, b4⟩, kc.trans (kb.trans (c3.trans (Kc.put st (by omega) l3 rfl)))⟩⟩
    | ret =>
      obtain ⟨k3, i3⟩ := hp
      obtain ⟨r0, l3, e3, b4⟩ := fin (some .ret) W3 k3
      exact ⟨_, _, e3, .inr ⟨rfl, _, (hIx _).put _ (by omega) l3 rfl i3, b4⟩⟩
    | exit id =>
      obtain ⟨k3, i3⟩ := hp
      obtain ⟨r0, l3, e3, b4⟩ := fin (some (.exit id)) W3 k3
      exact ⟨_, _, e3, .inr ⟨rfl, _, (hIx _).put _ (by omega) l3 rfl i3, b4⟩⟩
    | goto t =>
      obtain ⟨k3, i3⟩ := hp
      obtain ⟨r0, l3, e3, b4⟩ := fin (some (.goto t)) W3 k3
      exact ⟨_, _, e3, .inr ⟨rfl, _, (hIx _).put _ (by omega) l3 rfl i3, b4⟩⟩
    | panic ch => exact hp.elim
    | outgrown => exact hp.elim
  · rintro e W2 ⟨⟨v, rfl⟩, (⟨xs, hS, hi, hb⟩ | ⟨pre, hS, c, hi, hb⟩)⟩
    · refine ⟨none, _, by have := run_endLoop (P := P) hb.lo (by rw [hR]; simp); rw [hR] at this; exact this, hdone _ xs _ (Nat.le_refl _) hS (hI.put _ (by omega) hb.lo rfl hi) ((World.putObj_heap_other ne).trans hb.de)⟩
    · refine ⟨some c, _, by have := run_endLoop (P := P) hb.lo (by rw [hR]; simp); rw [hR] at this; exact this, hstop _ c pre _ (Nat.le_refl _) hS ((hIx c).put _ (by omega) hb.lo rfl hi) ((World.putObj_heap_other ne).trans hb.de)⟩
end
end Go.Proofs.Ythnmpnepgagmmaa
