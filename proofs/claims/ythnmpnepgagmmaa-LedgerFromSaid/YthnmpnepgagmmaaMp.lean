/- Ranges whose body turns what the iterator looks at, and its own variable; no program's function, no program's type. -/
import Derived.Test.YthnmpnepgagmmaaMj
namespace Go.Proofs.Ythnmpnepgagmmaa
open Go.RowKit
set_option linter.unusedVariables false

/-- An iterator's promise: called later on, at whatever loop: with whatever hangs on what lay there, and on the cells that S names, alone, it calls the rounds one after the other; what a round may turn is Kn N0 S. -/
def SeqW {α : Type} (F : Fence) (n : Nat) (P : Program) (g : Nat) (lb : Array Value) (encs : α → Array Value) (S : World → Nat → Prop) (Sd Sp Pr : List α → Prop) (PP : List α → World → Prop) (N0 : Nat) (w : World) : Prop :=
  ∀ (l : Nat) (J Jx : List α → World → Prop) (W : World), Below w.heap.size w W → Calm W.heap.size S J → Calm W.heap.size S Jx →
    (∀ pre x W1, J pre W1 → Pr (pre ++ [x]) → YieldAt F (n - 1) P l (encs x) W1 fun e W' =>
      (e = .returned (.bool true) ∧ J (pre ++ [x]) W' ∧ Kn N0 S W1 W' ∧ KeepsFrom W.heap.size W1 W') ∨ (e = .returned (.bool false) ∧ Jx (pre ++ [x]) W' ∧ KeepsFrom W.heap.size W1 W')) →
    (∀ pre W1, J pre W1 → PP pre W1) → J [] W →
    CallsIn F n P g (#[.func (.yield l) #[] #[]] ++ lb) W fun e W' => (∃ v, e = .returned v) ∧ ((∃ xs, Sd xs ∧ J xs W') ∨ (∃ pre, Sp pre ∧ Jx pre W'))
section
variable {α : Type} {P : Program} {n : Nat} {g : Operand} {ps : Array Tmp} {assign body : Code} {Q : Exit → Act → World → Prop} {a : Act} {w : World} {gf : Nat} {lb : Array Value} {encs : α → Array Value} {S : World → Nat → Prop} {Sd Sp Pr : List α → Prop} {PP : List α → World → Prop} {N0 : Nat}
/-- The rule: a range over such an iterator, in no other such loop. -/
theorem range_calmW (h1 : 1 ≤ n) (hg : a.eval g = .func (.func gf) #[] lb) (eg : ∀ args w, (callFunc gf args).run P w = .ok (.enter gf args) w) (st : Still S w.heap.size) (hN0 : N0 ≤ w.heap.size)
    (hseq : SeqW Fence.wide (n - 1) P gf lb encs S Sd Sp Pr PP N0 w) (hps : ∀ x, (encs x).size = ps.size)
    (I : List α → World → Prop) (Ix : Code → List α → World → Prop) (hI : Calm w.heap.size S I) (hIx : ∀ c, Calm w.heap.size S (Ix c)) (hPP : ∀ pre W, I pre W → PP pre W) (h0 : I [] w)
    (Ax : α → World → Act → World → Prop) (hAx : ∀ x W0 a' W (l : Nat) (o o' : Obj), Ax x W0 a' W → w.heap.size ≤ l → W.heap[l]? = some o → o.isCells = false → Ax x W0 a' (W.putObj l o'))
    (hassign : ∀ (l : Nat) (pre : List α) (x : α) (W : World) (K : Act → World → Prop), I pre W → Pr (pre ++ [x]) → (∀ a' W', KeepsFrom w.heap.size W W' → Kn N0 S W W' → I pre W' → Ax x W a' W' → K a' W') →
      assign.wpIn (Fence.wide.inRound l) (n - 1 - 1) P (Exit.then K (fun _ _ _ => False)) { tmps := (ps.zip (encs x)).foldl (fun t (p, v) => t.setIfInBounds p v) a.tmps, defers := [] } W)
    (hbody : ∀ (l : Nat) (pre : List α) (x : α) (W0 : World) (a' : Act) (W : World), w.heap.size ≤ l → (∃ r, W.heap[l]? = some (.loop r)) → Kn N0 S W0 W → I pre W → Ax x W0 a' W → Pr (pre ++ [x]) → body.wpIn (Fence.wide.inRound l) (n - 1 - 1) P (ownPostG w.heap.size (fun _ W' => Kn N0 S W0 W') I Ix (pre ++ [x]) W) a' W)
    (hdone : ∀ (D : Nat) (xs : List α) (W : World), w.heap.size ≤ D → Sd xs → I xs W → W.heap[D]? = some (.deferred (some [])) → Q .normal { a with defers := { target := .collected D, args := #[] } :: a.defers } W)
    (hstop : ∀ (D : Nat) (c : Code) (pre : List α) (W : World), w.heap.size ≤ D → Sp pre → Ix c pre W → W.heap[D]? = some (.deferred (some [])) → c.wpIn Fence.wide n P Q { a with defers := { target := .collected D, args := #[] } :: a.defers } W) :
    (Code.rangeFunc g ps assign body).wpIn Fence.wide n P Q a w := by
  refine wpIn_rangeFunc fun fn hfn => ?_
  show ∃ l mark w₁ d w₁' f args w₂, (Instr.enterLoop fn a.tmps ps assign body none).run P w = .ok (l, mark) w₁ ∧ _
  obtain ⟨R, hR⟩ : ∃ R : LoopState → Option Code → Loop, R = fun st pe => { state := st, pending := pe, fn, tmps := a.tmps, params := ps, assign, body, defers := w.heap.size } := ⟨_, rfl⟩
  obtain ⟨V, hV⟩ : ∃ V, (w.alloc (.deferred (some []))).alloc (.loop (R .ready none)) = V := ⟨_, rfl⟩
  have bk : Books w.heap.size (w.heap.size + 1) (R .ready none) V := by
    rw [← hV]
    exact ⟨heap_alloc2_new w _ _, heap_alloc2_old w _ _⟩
  have bV : Below w.heap.size w V := by rw [← hV]; exact ((Below.refl _ w).alloc (Nat.le_refl _) _).alloc (by simp) _
  have sV : V.heap.size = w.heap.size + 2 := by rw [← hV]; simp
  have iV : I [] V := hI.grow (Nat.le_refl _) bV h0
  refine ⟨w.heap.size + 1, [{ target := .collected w.heap.size, args := #[] }], V, { target := .fn (.func gf) lb, args := #[.func (.yield (w.heap.size + 1)) #[] #[]] }, V, gf, #[.func (.yield (w.heap.size + 1)) #[] #[]] ++ lb, V, ?_, ?_, fun _ _ => trivial, ?_, fun _ => h1, ?_⟩
  · rw [← hV, hR]; exact run_enterLoop_outer _ _ _ _ _
  · simp only [resolve, hg]
    simp [go_sem]
  · simp [invoke, go_sem, eg]
  have up : w.heap.size ≤ V.heap.size := bV.size
  have hd : w.heap.size < V.heap.size := by omega
  have hl : w.heap.size + 1 < V.heap.size := by omega
  have ne : w.heap.size ≠ w.heap.size + 1 := by omega
  refine (hseq (w.heap.size + 1)
    (fun pre W => I pre W ∧ Books w.heap.size (w.heap.size + 1) (R .ready none) W)
    (fun pre W => ∃ c, Ix c pre W ∧ Books w.heap.size (w.heap.size + 1) (R .done (some c)) W)
    V bV ((hI.up up).and (Books.calm hd hl))
    (fun s A C hj b k => by
      obtain ⟨c, h2, h3⟩ := hj
      exact ⟨c, (hIx c).up up s A C h2 b k, Books.calm (S := S) (β := List α) hd hl s A C h3 b k⟩)
    ?_ (fun pre W h => hPP pre W h.1) ⟨iV, bk⟩).mono ?_
  · rintro pre x W ⟨hi, hb⟩ hlen
    have hy := run_yield (P := P) (args := encs x) hb.lo (by rw [hR]; exact hps x)
    rw [hR] at hy
    refine ⟨fn, _, assign, body, hy, roundIn_of_wpIn hfn (hassign _ pre x W _ hi hlen ?_)⟩
    clear hy
    intro a' Wa ka kc ia ax
    have ba := hb.kept ka (Nat.le_refl _) (by omega)
    have kb := Kn.put (W := Wa) (o' := .loop { R .ready none with state := .busy }) hN0 st (show w.heap.size ≤ w.heap.size + 1 by omega) ba.lo rfl
    have bb : Books w.heap.size (w.heap.size + 1) { R .ready none with state := .busy } (Wa.putObj (w.heap.size + 1) (.loop { R .ready none with state := .busy })) := ba.turn ne
    refine ⟨_, run_beginRound ba.lo (by rw [hR]), ?_⟩
    refine wpIn_mono (hbody _ pre x W a' _ (by omega) ⟨_, bb.lo⟩ (kc.trans kb) (hI.put _ (by omega) ba.lo rfl ia) (hAx x W a' _ _ _ _ ax (by omega) ba.lo rfl) hlen) ?_
    have fin : ∀ (jump : Option Code) (W3 : World), KeepsFrom w.heap.size (Wa.putObj (w.heap.size + 1) (.loop { R .ready none with state := .busy })) W3 →
        ∃ r0 : Loop, W3.heap[w.heap.size + 1]? = some (.loop r0) ∧ (Instr.endRound (w.heap.size + 1) jump).run P W3 = .ok (.bool jump.isNone) (W3.putObj (w.heap.size + 1) (.loop (R (if jump.isNone then .ready else .done) jump))) ∧
        Books w.heap.size (w.heap.size + 1) (R (if jump.isNone then .ready else .done) jump) (W3.putObj (w.heap.size + 1) (.loop (R (if jump.isNone then .ready else .done) jump))) := fun jump W3 k3 => by
      have b3 := bb.kept k3 (Nat.le_refl _) (by omega)
      have e := run_endRound (P := P) jump b3.lo
      rw [hR] at e ⊢
      refine ⟨_, b3.lo, e, ?_⟩
      rw [hR] at b3
      exact b3.turn ne
    have kf : ∀ (W3 : World) (r : Loop), KeepsFrom w.heap.size (Wa.putObj (w.heap.size + 1) (.loop { R .ready none with state := .busy })) W3 → KeepsFrom V.heap.size W (W3.putObj (w.heap.size + 1) (.loop r)) := fun W3 r k => (((keeps_up ka up).trans (keeps_put _ _ hl)).trans (keeps_up k up)).trans (keeps_put _ _ hl)
    rintro e a3 W3 hp
    cases e with
    | normal =>
      obtain ⟨k3, c3, i3⟩ := hp
      obtain ⟨r0, l3, e3, b4⟩ := fin none W3 k3
      exact ⟨_, _, e3, .inl ⟨rfl, ⟨hI.put _ (by omega) l3 rfl i3, b4⟩, c3.trans (Kn.put hN0 st (by omega) l3 rfl), kf _ _ k3⟩⟩
    | ret =>
      obtain ⟨k3, i3⟩ := hp
      obtain ⟨r0, l3, e3, b4⟩ := fin (some .ret) W3 k3
      exact ⟨_, _, e3, .inr ⟨rfl, ⟨_, (hIx _).put _ (by omega) l3 rfl i3, b4⟩, kf _ _ k3⟩⟩
    | exit id =>
      obtain ⟨k3, i3⟩ := hp
      obtain ⟨r0, l3, e3, b4⟩ := fin (some (.exit id)) W3 k3
      exact ⟨_, _, e3, .inr ⟨rfl, ⟨_, (hIx _).put _ (by omega) l3 rfl i3, b4⟩, kf _ _ k3⟩⟩
    | goto t =>
      obtain ⟨k3, i3⟩ := hp
      obtain ⟨r0, l3, e3, b4⟩ := fin (some (.goto t)) W3 k3
      exact ⟨_, _, e3, .inr ⟨rfl, ⟨_, (hIx _).put _ (by omega) l3 rfl i3, b4⟩, kf _ _ k3⟩⟩
    | panic ch => exact hp.elim
    | outgrown => exact hp.elim
  · rintro e W2 ⟨⟨v, rfl⟩, (⟨xs, hS, hi, hb⟩ | ⟨pre, hS, c, hi, hb⟩)⟩
    · refine ⟨none, _, by have := run_endLoop (P := P) hb.lo (by rw [hR]; simp); rw [hR] at this; exact this, hdone _ xs _ (Nat.le_refl _) hS (hI.put _ (by omega) hb.lo rfl hi) ((World.putObj_heap_other ne).trans hb.de)⟩
    · refine ⟨some c, _, by have := run_endLoop (P := P) hb.lo (by rw [hR]; simp); rw [hR] at this; exact this, hstop _ c pre _ (Nat.le_refl _) hS ((hIx c).put _ (by omega) hb.lo rfl hi) ((World.putObj_heap_other ne).trans hb.de)⟩
end
end Go.Proofs.Ythnmpnepgagmmaa
