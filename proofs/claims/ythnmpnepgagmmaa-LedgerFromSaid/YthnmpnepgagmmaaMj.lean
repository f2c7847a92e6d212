/- Iterators over what lies in maps: their promise, what a round may turn of whatever lay below N0, and of cells; the rule of a range over one, outermost or within a round; no program's function, no program's type. -/
import Derived.Test.YthnmpnepgagmmaaFs
namespace Go.Proofs.Ythnmpnepgagmmaa
open Go.RowKit
set_option linter.unusedVariables false

/-- What a round may turn: of what lay below N0, and of the cells that are there, that of S alone; what is new is its own. -/
def Kn (N0 : Nat) (S : World → Nat → Prop) (A B : World) : Prop :=
  (∀ k, S A k → k < A.heap.size) → (∀ k, S B k → k < B.heap.size) ∧ (∀ k, S B k → S A k ∨ A.heap.size ≤ k) ∧ Below 0 A B ∧ ∀ k, k < A.heap.size → ¬ S A k → (k < N0 ∨ ∃ cs t f, A.heap[k]? = some (.cells cs t f)) → B.heap[k]? = A.heap[k]?
section
variable {N0 N1 : Nat} {S : World → Nat → Prop} {A B C : World}
theorem Kn.trans (h : Kn N0 S A B) (k : Kn N0 S B C) : Kn N0 S A C := fun wf => by
  obtain ⟨h1, h2, h3, h4⟩ := h wf
  obtain ⟨k1, k2, k3, k4⟩ := k h1
  refine ⟨k1, fun j hj => ?_, h3.trans k3, fun j hj hn hc => ?_⟩
  · rcases k2 j hj with c | c
    · exact h2 j c
    · exact .inr (Nat.le_trans h3.size c)
  · have e := h4 j hj hn hc
    refine (k4 j (Nat.lt_of_lt_of_le hj h3.size) (fun c => ?_) (by rw [e]; exact hc)).trans e
    rcases h2 j c with c | c
    · exact hn c
    · omega
theorem Kn.low (h : Kn N1 S A B) (hN : N0 ≤ N1) : Kn N0 S A B := fun wf => by
  obtain ⟨h1, h2, h3, h4⟩ := h wf
  exact ⟨h1, h2, h3, fun j hj hn hc => h4 j hj hn (hc.imp (fun c => Nat.lt_of_lt_of_le c hN) id)⟩
theorem Kn.below {N : Nat} (st : Still S N) (hN : N ≤ A.heap.size) (q : Below A.heap.size A B) : Kn N0 S A B := fun wf =>
  have s := st A B hN (fun k hk => q.block k (by omega))
  ⟨fun k h => Nat.lt_of_lt_of_le (wf k (s k h)) q.size, fun k h => .inl (s k h), q.mono (Nat.zero_le _), fun k hk _ _ => q.block k hk⟩
theorem Kn.put {N : Nat} (hN0 : N0 ≤ N) (st : Still S N) {W : World} {l : Nat} {o o' : Obj} (hl : N ≤ l) (ho : W.heap[l]? = some o) (hc : o.isCells = false) : Kn N0 S W (W.putObj l o') := fun wf => by
  have hlt := (Array.getElem?_eq_some_iff.1 ho).1
  have g := grownBy_putObj' W l o'
  have s := st W (W.putObj l o') (by omega) (fun k hk => g.block k (by omega) (fun e => by cases e; omega))
  refine ⟨fun k h => Nat.lt_of_lt_of_le (wf k (s k h)) g.size, fun k h => .inl (s k h), (Below.refl 0 W).grown g (Nat.zero_le _) (fun _ _ => Nat.zero_le _), fun k hk _ hq => g.block _ hk (fun c => ?_)⟩
  cases c
  rcases hq with q | ⟨cs, t, f, e⟩
  · omega
  · rw [e] at ho
    cases ho
    cases hc
theorem Kn.fr {S : Nat → Prop} (h : Fr S A B) : Kn N0 (fun _ => S) A B := fun wf => ⟨fun k hk => Nat.lt_of_lt_of_le (wf k hk) h.size, fun k hk => .inl hk, h.b0, fun k hk hn _ => h.at' k hk hn⟩
end
theorem keeps_up {B B' : Nat} {W W' : World} (h : KeepsFrom B W W') (hB : B ≤ B') : KeepsFrom B' W W' := ⟨h.size, fun k o hk hh ho => h.same k o (Nat.le_trans hB hk) hh ho⟩
theorem keeps_put {B : Nat} (W : World) {l : Nat} (o : Obj) (hl : l < B) : KeepsFrom B W (W.putObj l o) := KeepsFrom.of_grownBy (grownBy_putObj' W l o) (fun j e => by cases e; exact hl)
/-- An iterator's promise: called later on, at whatever loop: with whatever hangs on what lay there, and on the cells that S names, alone, it calls the rounds one after the other; what a round may turn is Kn N0 S. -/
def SeqN {α : Type} (F : Fence) (n : Nat) (P : Program) (g : Nat) (lb : Array Value) (encs : α → Array Value) (S : World → Nat → Prop) (Sd Sp Pr : List α → Prop) (N0 : Nat) (w : World) : Prop :=
  ∀ (l : Nat) (J Jx : List α → World → Prop) (W : World), Below w.heap.size w W → Calm W.heap.size S J → Calm W.heap.size S Jx →
    (∀ pre x W1, J pre W1 → Pr (pre ++ [x]) → YieldAt F (n - 1) P l (encs x) W1 fun e W' =>
      (e = .returned (.bool true) ∧ J (pre ++ [x]) W' ∧ Kn N0 S W1 W' ∧ KeepsFrom W.heap.size W1 W') ∨ (e = .returned (.bool false) ∧ Jx (pre ++ [x]) W' ∧ KeepsFrom W.heap.size W1 W')) →
    J [] W →
    CallsIn F n P g (#[.func (.yield l) #[] #[]] ++ lb) W fun e W' => (∃ v, e = .returned v) ∧ ((∃ xs, Sd xs ∧ J xs W') ∨ (∃ pre, Sp pre ∧ Jx pre W'))
section
variable {α : Type} {P : Program} {n : Nat} {g : Operand} {ps : Array Tmp} {assign body : Code} {Q : Exit → Act → World → Prop} {a : Act} {w : World} {gf : Nat} {lb : Array Value} {encs : α → Array Value} {S : World → Nat → Prop} {Sd Sp Pr : List α → Prop} {N0 : Nat}
/-- The rule: a range over such an iterator, in no other such loop. -/
theorem range_calmN (h1 : 1 ≤ n) (hg : a.eval g = .func (.func gf) #[] lb) (eg : ∀ args w, (callFunc gf args).run P w = .ok (.enter gf args) w) (st : Still S w.heap.size) (hN0 : N0 ≤ w.heap.size)
    (hseq : SeqN Fence.wide (n - 1) P gf lb encs S Sd Sp Pr N0 w) (hps : ∀ x, (encs x).size = ps.size)
    (I : List α → World → Prop) (Ix : Code → List α → World → Prop) (hI : Calm w.heap.size S I) (hIx : ∀ c, Calm w.heap.size S (Ix c)) (h0 : I [] w)
    (Ax : α → Act → World → Prop) (hAx : ∀ x a' W (l : Nat) (o o' : Obj), Ax x a' W → w.heap.size ≤ l → W.heap[l]? = some o → o.isCells = false → Ax x a' (W.putObj l o'))
    (hassign : ∀ (l : Nat) (pre : List α) (x : α) (W : World) (K : Act → World → Prop), I pre W → Pr (pre ++ [x]) → (∀ a' W', KeepsFrom w.heap.size W W' → Kn N0 S W W' → I pre W' → Ax x a' W' → K a' W') →
      assign.wpIn (Fence.wide.inRound l) (n - 1 - 1) P (Exit.then K (fun _ _ _ => False)) { tmps := (ps.zip (encs x)).foldl (fun t (p, v) => t.setIfInBounds p v) a.tmps, defers := [] } W)
    (hbody : ∀ (l : Nat) (pre : List α) (x : α) (a' : Act) (W : World), w.heap.size ≤ l → (∃ r, W.heap[l]? = some (.loop r)) → I pre W → Ax x a' W → Pr (pre ++ [x]) → body.wpIn (Fence.wide.inRound l) (n - 1 - 1) P (ownPostG w.heap.size (Kn N0 S) I Ix (pre ++ [x]) W) a' W)
    (hdone : ∀ (D : Nat) (xs : List α) (W : World), w.heap.size ≤ D → Sd xs → I xs W → W.heap[D]? = some (.deferred (some [])) → Q .normal { a with defers := { target := .collected D, args := #[] } :: a.defers } W)
    (hstop : ∀ (D : Nat) (c : Code) (pre : List α) (W : World), w.heap.size ≤ D → Sp pre → Ix c pre W → W.heap[D]? = some (.deferred (some [])) → c.wpIn Fence.wide n P Q { a with defers := { target := .collected D, args := #[] } :: a.defers } W) :
    (Code.rangeFunc g ps assign body).wpIn Fence.wide n P Q a w := by
  refine wpIn_rangeFunc fun fn hfn => ?_
  show ∃ l mark w₁ d w₁' f args w₂, (Instr.enterLoop fn a.tmps ps assign body none).run P w = .ok (l, mark) w₁ ∧ _
  obtain ⟨R, hR⟩ : ∃ R : LoopState → Option Code → Loop, R = fun st pe => { state := st, pending := pe, fn, tmps := a.tmps, params := ps, assign, body, defers := w.heap.size } := ⟨_, rfl⟩
  obtain ⟨V, hV⟩ : ∃ V, (w.alloc (.deferred (some []))).alloc (.loop (R .ready none)) = V := ⟨_, rfl⟩
  have bk : Books w.heap.size (w.heap.size + 1) (R .ready none) V := by
    rw [← hV]
    exact ⟨heap_alloc2_new w _ _, heap_alloc2_old w _ _⟩
  have bV : Below w.heap.size w V := by rw [← hV]; exact ((Below.refl _ w).alloc (Nat.le_refl _) _).alloc (by simp) _
  have sV : V.heap.size = w.heap.size + 2 := by rw [← hV]; simp
  have iV : I [] V := hI.grow (Nat.le_refl _) bV h0
  refine ⟨w.heap.size + 1, [{ target := .collected w.heap.size, args := #[] }], V, { target := .fn (.func gf) lb, args := #[.func (.yield (w.heap.size + 1)) #[] #[]] }, V, gf, #[.func (.yield (w.heap.size + 1)) #[] #[]] ++ lb, V, ?_, ?_, fun _ _ => trivial, ?_, fun _ => h1, ?_⟩
  · rw [← hV, hR]; exact run_enterLoop_outer _ _ _ _ _
  · simp only [resolve, hg]
    simp [go_sem]
  · simp [invoke, go_sem, eg]
  have up : w.heap.size ≤ V.heap.size := bV.size
  have hd : w.heap.size < V.heap.size := by omega
  have hl : w.heap.size + 1 < V.heap.size := by omega
  have ne : w.heap.size ≠ w.heap.size + 1 := by omega
  refine (hseq (w.heap.size + 1)
    (fun pre W => I pre W ∧ Books w.heap.size (w.heap.size + 1) (R .ready none) W)
    (fun pre W => ∃ c, Ix c pre W ∧ Books w.heap.size (w.heap.size + 1) (R .done (some c)) W)
    V bV ((hI.up up).and (Books.calm hd hl))
    (fun s A C hj b k => by
      obtain ⟨c, h2, h3⟩ := hj
      exact ⟨c, (hIx c).up up s A C h2 b k, Books.calm (S := S) (β := List α) hd hl s A C h3 b k⟩)
    ?_ ⟨iV, bk⟩).mono ?_
  · rintro pre x W ⟨hi, hb⟩ hlen
    have hy := run_yield (P := P) (args := encs x) hb.lo (by rw [hR]; exact hps x)
    rw [hR] at hy
    refine ⟨fn, _, assign, body, hy, roundIn_of_wpIn hfn (hassign _ pre x W _ hi hlen ?_)⟩
    clear hy
    intro a' Wa ka kc ia ax
    have ba := hb.kept ka (Nat.le_refl _) (by omega)
    have kb := Kn.put (W := Wa) (o' := .loop { R .ready none with state := .busy }) hN0 st (show w.heap.size ≤ w.heap.size + 1 by omega) ba.lo rfl
    have bb : Books w.heap.size (w.heap.size + 1) { R .ready none with state := .busy } (Wa.putObj (w.heap.size + 1) (.loop { R .ready none with state := .busy })) := ba.turn ne
    refine ⟨_, run_beginRound ba.lo (by rw [hR]), ?_⟩
    refine wpIn_mono (hbody _ pre x a' _ (by omega) ⟨_, bb.lo⟩ (hI.put _ (by omega) ba.lo rfl ia) (hAx x a' _ _ _ _ ax (by omega) ba.lo rfl) hlen) ?_
    have fin : ∀ (jump : Option Code) (W3 : World), KeepsFrom w.heap.size (Wa.putObj (w.heap.size + 1) (.loop { R .ready none with state := .busy })) W3 →
        ∃ r0 : Loop, W3.heap[w.heap.size + 1]? = some (.loop r0) ∧ (Instr.endRound (w.heap.size + 1) jump).run P W3 = .ok (.bool jump.isNone) (W3.putObj (w.heap.size + 1) (.loop (R (if jump.isNone then .ready else .done) jump))) ∧
        Books w.heap.size (w.heap.size + 1) (R (if jump.isNone then .ready else .done) jump) (W3.putObj (w.heap.size + 1) (.loop (R (if jump.isNone then .ready else .done) jump))) := fun jump W3 k3 => by
      have b3 := bb.kept k3 (Nat.le_refl _) (by omega)
      have e := run_endRound (P := P) jump b3.lo
      rw [hR] at e ⊢
      refine ⟨_, b3.lo, e, ?_⟩
      rw [hR] at b3
      exact b3.turn ne
    have kf : ∀ (W3 : World) (r : Loop), KeepsFrom w.heap.size (Wa.putObj (w.heap.size + 1) (.loop { R .ready none with state := .busy })) W3 → KeepsFrom V.heap.size W (W3.putObj (w.heap.size + 1) (.loop r)) := fun W3 r k => (((keeps_up ka up).trans (keeps_put _ _ hl)).trans (keeps_up k up)).trans (keeps_put _ _ hl)
    rintro e a3 W3 hp
    cases e with
    | normal =>
      obtain ⟨k3, c3, i3⟩ := hp
      obtain ⟨r0, l3, e3, b4⟩ := fin none W3 k3
      exact ⟨_, _, e3, .inl ⟨rfl, ⟨hI.put _ (by omega) l3 rfl i3, b4⟩, kc.trans (kb.trans (c3.trans (Kn.put hN0 st (by omega) l3 rfl))), kf _ _ k3⟩⟩
    | ret =>
      obtain ⟨k3, i3⟩ := hp
      obtain ⟨r0, l3, e3, b4⟩ := fin (some .ret) W3 k3
      exact ⟨_, _, e3, .inr ⟨rfl, ⟨_, (hIx _).put _ (by omega) l3 rfl i3, b4⟩, kf _ _ k3⟩⟩
    | exit id =>
      obtain ⟨k3, i3⟩ := hp
      obtain ⟨r0, l3, e3, b4⟩ := fin (some (.exit id)) W3 k3
      exact ⟨_, _, e3, .inr ⟨rfl, ⟨_, (hIx _).put _ (by omega) l3 rfl i3, b4⟩, kf _ _ k3⟩⟩
    | goto t =>
      obtain ⟨k3, i3⟩ := hp
      obtain ⟨r0, l3, e3, b4⟩ := fin (some (.goto t)) W3 k3
      exact ⟨_, _, e3, .inr ⟨rfl, ⟨_, (hIx _).put _ (by omega) l3 rfl i3, b4⟩, kf _ _ k3⟩⟩
    | panic ch => exact hp.elim
    | outgrown => exact hp.elim
  · rintro e W2 ⟨⟨v, rfl⟩, (⟨xs, hS, hi, hb⟩ | ⟨pre, hS, c, hi, hb⟩)⟩
    · refine ⟨none, _, by have := run_endLoop (P := P) hb.lo (by rw [hR]; simp); rw [hR] at this; exact this, hdone _ xs _ (Nat.le_refl _) hS (hI.put _ (by omega) hb.lo rfl hi) ((World.putObj_heap_other ne).trans hb.de)⟩
    · refine ⟨some c, _, by have := run_endLoop (P := P) hb.lo (by rw [hR]; simp); rw [hR] at this; exact this, hstop _ c pre _ (Nat.le_refl _) hS ((hIx c).put _ (by omega) hb.lo rfl hi) ((World.putObj_heap_other ne).trans hb.de)⟩
end
section
variable {α : Type} {P : Program} {n : Nat} {g : Operand} {ps : Array Tmp} {assign body : Code} {Q : Exit → Act → World → Prop} {a : Act} {w : World} {gf : Nat} {lb : Array Value} {encs : α → Array Value} {S : World → Nat → Prop} {Sd Sp Pr : List α → Prop} {N0 : Nat}
/-- The rule within a round of loop l₀. -/
theorem range_calmR {l₀ : Nat} {r₀ : Loop} (hl₀ : w.heap[l₀]? = some (.loop r₀)) (h1 : 1 ≤ n) (hg : a.eval g = .func (.func gf) #[] lb) (eg : ∀ args w, (callFunc gf args).run P w = .ok (.enter gf args) w) (st : Still S w.heap.size) (hN0 : N0 ≤ w.heap.size)
    (hseq : SeqN Fence.wide (n - 1) P gf lb encs S Sd Sp Pr N0 w) (hps : ∀ x, (encs x).size = ps.size)
    (I : List α → World → Prop) (Ix : Code → List α → World → Prop) (hI : Calm w.heap.size S I) (hIx : ∀ c, Calm w.heap.size S (Ix c)) (h0 : I [] w)
    (Ax : α → Act → World → Prop) (hAx : ∀ x a' W (l : Nat) (o o' : Obj), Ax x a' W → w.heap.size ≤ l → W.heap[l]? = some o → o.isCells = false → Ax x a' (W.putObj l o'))
    (hassign : ∀ (l : Nat) (pre : List α) (x : α) (W : World) (K : Act → World → Prop), I pre W → Pr (pre ++ [x]) → (∀ a' W', KeepsFrom w.heap.size W W' → Kn N0 S W W' → I pre W' → Ax x a' W' → K a' W') →
      assign.wpIn ((Fence.wide.inRound l₀).inRound l) (n - 1 - 1) P (Exit.then K (fun _ _ _ => False)) { tmps := (ps.zip (encs x)).foldl (fun t (p, v) => t.setIfInBounds p v) a.tmps, defers := [] } W)
    (hbody : ∀ (l : Nat) (pre : List α) (x : α) (a' : Act) (W : World), w.heap.size ≤ l → (∃ r, W.heap[l]? = some (.loop r)) → I pre W → Ax x a' W → Pr (pre ++ [x]) → body.wpIn ((Fence.wide.inRound l₀).inRound l) (n - 1 - 1) P (ownPostG w.heap.size (Kn N0 S) I Ix (pre ++ [x]) W) a' W)
    (hdone : ∀ (xs : List α) (W : World), Sd xs → I xs W → Q .normal a W)
    (hstop : ∀ (c : Code) (pre : List α) (W : World), Sp pre → Ix c pre W → c.wpIn (Fence.wide.inRound l₀) n P Q a W) :
    (Code.rangeFunc g ps assign body).wpIn (Fence.wide.inRound l₀) n P Q a w := by
  refine wpIn_rangeFunc fun fn hfn => ?_
  show ∃ l mark w₁ d w₁' f args w₂, (Instr.enterLoop fn a.tmps ps assign body (some l₀)).run P w = .ok (l, mark) w₁ ∧ _
  obtain ⟨R, hR⟩ : ∃ R : LoopState → Option Code → Loop, R = fun st pe => { state := st, pending := pe, fn, tmps := a.tmps, params := ps, assign, body, defers := r₀.defers } := ⟨_, rfl⟩
  obtain ⟨V, hV⟩ : ∃ V, w.alloc (.loop (R .ready none)) = V := ⟨_, rfl⟩
  have bk : V.heap[w.heap.size]? = some (.loop (R .ready none)) := by rw [← hV]; exact World.alloc_heap_new w _
  have bV : Below w.heap.size w V := by rw [← hV]; exact (Below.refl _ w).alloc (Nat.le_refl _) _
  have sV : V.heap.size = w.heap.size + 1 := by rw [← hV]; simp
  have iV : I [] V := hI.grow (Nat.le_refl _) bV h0
  refine ⟨w.heap.size, [], V, { target := .fn (.func gf) lb, args := #[.func (.yield w.heap.size) #[] #[]] }, V, gf, #[.func (.yield w.heap.size) #[] #[]] ++ lb, V, ?_, ?_, fun _ _ => trivial, ?_, fun _ => h1, ?_⟩
  · rw [← hV, hR]; exact run_enterLoop_inner hl₀ _ _ _ _ _
  · simp only [resolve, hg]
    simp [go_sem]
  · simp [invoke, go_sem, eg]
  have up : w.heap.size ≤ V.heap.size := bV.size
  have hl : w.heap.size < V.heap.size := by omega
  have cl : ∀ {r : Loop}, Calm V.heap.size S (fun (_ : List α) W => W.heap[w.heap.size]? = some (.loop r)) := fun {r} => calm_at hl
  refine CallsIn.mono (CallsIn.inRound l₀ (hseq w.heap.size
    (fun pre W => I pre W ∧ W.heap[w.heap.size]? = some (.loop (R .ready none)))
    (fun pre W => ∃ c, Ix c pre W ∧ W.heap[w.heap.size]? = some (.loop (R .done (some c))))
    V bV ((hI.up up).and cl)
    (fun s A C hj b k => by
      obtain ⟨c, h2, h3⟩ := hj
      exact ⟨c, (hIx c).up up s A C h2 b k, cl s A C h3 b k⟩)
    ?_ ⟨iV, bk⟩)) ?_
  · rintro pre x W ⟨hi, hb⟩ hlen
    have hy := run_yield (P := P) (args := encs x) hb (by rw [hR]; exact hps x)
    rw [hR] at hy
    refine ⟨fn, _, assign, body, hy, roundIn_of_wpIn (F := Fence.wide.inRound l₀) hfn (hassign _ pre x W _ hi hlen ?_)⟩
    clear hy
    intro a' Wa ka kc ia ax
    have ba := ka.same _ _ (Nat.le_refl _) hb rfl
    have kb := Kn.put (W := Wa) (o' := .loop { R .ready none with state := .busy }) hN0 st (Nat.le_refl w.heap.size) ba rfl
    have bb : (Wa.putObj w.heap.size (.loop { R .ready none with state := .busy })).heap[w.heap.size]? = some (.loop { R .ready none with state := .busy }) := World.putObj_heap_same (Array.getElem?_eq_some_iff.1 ba).1
    refine ⟨_, run_beginRound ba (by rw [hR]), ?_⟩
    refine wpIn_mono (hbody _ pre x a' _ (Nat.le_refl _) ⟨_, bb⟩ (hI.put _ (Nat.le_refl _) ba rfl ia) (hAx x a' _ _ _ _ ax (Nat.le_refl _) ba rfl) hlen) ?_
    have fin : ∀ (jump : Option Code) (W3 : World), KeepsFrom w.heap.size (Wa.putObj w.heap.size (.loop { R .ready none with state := .busy })) W3 →
        ∃ r0 : Loop, W3.heap[w.heap.size]? = some (.loop r0) ∧ (Instr.endRound w.heap.size jump).run P W3 = .ok (.bool jump.isNone) (W3.putObj w.heap.size (.loop (R (if jump.isNone then .ready else .done) jump))) ∧
        (W3.putObj w.heap.size (.loop (R (if jump.isNone then .ready else .done) jump))).heap[w.heap.size]? = some (.loop (R (if jump.isNone then .ready else .done) jump)) := fun jump W3 k3 => by
      have b3 := k3.same _ _ (Nat.le_refl _) bb rfl
      have e := run_endRound (P := P) jump b3
      rw [hR] at e ⊢
      refine ⟨_, b3, e, ?_⟩
      exact World.putObj_heap_same (Array.getElem?_eq_some_iff.1 b3).1
    have kf : ∀ (W3 : World) (r : Loop), KeepsFrom w.heap.size (Wa.putObj w.heap.size (.loop { R .ready none with state := .busy })) W3 → KeepsFrom V.heap.size W (W3.putObj w.heap.size (.loop r)) := fun W3 r k => (((keeps_up ka up).trans (keeps_put _ _ hl)).trans (keeps_up k up)).trans (keeps_put _ _ hl)
    rintro e a3 W3 hp
    cases e with
    | normal =>
      obtain ⟨k3, c3, i3⟩ := hp
      obtain ⟨r0, l3, e3, b4⟩ := fin none W3 k3
      exact ⟨_, _, e3, .inl ⟨rfl, ⟨hI.put _ (Nat.le_refl _) l3 rfl i3, b4⟩, kc.trans (kb.trans (c3.trans (Kn.put hN0 st (Nat.le_refl _) l3 rfl))), kf _ _ k3⟩⟩
    | ret =>
      obtain ⟨k3, i3⟩ := hp
      obtain ⟨r0, l3, e3, b4⟩ := fin (some .ret) W3 k3
      exact ⟨_, _, e3, .inr ⟨rfl, ⟨_, (hIx _).put _ (Nat.le_refl _) l3 rfl i3, b4⟩, kf _ _ k3⟩⟩
    | exit id =>
      obtain ⟨k3, i3⟩ := hp
      obtain ⟨r0, l3, e3, b4⟩ := fin (some (.exit id)) W3 k3
      exact ⟨_, _, e3, .inr ⟨rfl, ⟨_, (hIx _).put _ (Nat.le_refl _) l3 rfl i3, b4⟩, kf _ _ k3⟩⟩
    | goto t =>
      obtain ⟨k3, i3⟩ := hp
      obtain ⟨r0, l3, e3, b4⟩ := fin (some (.goto t)) W3 k3
      exact ⟨_, _, e3, .inr ⟨rfl, ⟨_, (hIx _).put _ (Nat.le_refl _) l3 rfl i3, b4⟩, kf _ _ k3⟩⟩
    | panic ch => exact hp.elim
    | outgrown => exact hp.elim
  · rintro e W2 ⟨⟨v, rfl⟩, (⟨xs, hS, hi, hb⟩ | ⟨pre, hS, c, hi, hb⟩)⟩
    · refine ⟨none, _, by have := run_endLoop (P := P) hb (by rw [hR]; simp); rw [hR] at this; exact this, hdone xs _ hS (hI.put _ (Nat.le_refl _) hb rfl hi)⟩
    · refine ⟨some c, _, by have := run_endLoop (P := P) hb (by rw [hR]; simp); rw [hR] at this; exact this, hstop c pre _ hS ((hIx c).put _ (Nat.le_refl _) hb rfl hi)⟩
end
end Go.Proofs.Ythnmpnepgagmmaa
