/- Texts of a proof, laid together: Ii, Ic, Ij, Ik, Bd. -/
import Derived.Test.YtdcjgcjnfcahkaaG05
import Derived.Test.YtdcjgcjnfcahkaaG07
import Derived.Test.YtdcjgcjnfcahkaaG06
/- Iterators that range over functions themselves: their promise, and the rule of a range over one; no program's function, no program's type. -/
namespace Go.Proofs.Ytdcjgcjnfcahkaa
open Go.RowKit
set_option linter.unusedVariables false

theorem keeps_up {B B' : Nat} {W W' : World} (hB : B ≤ B') (h : KeepsFrom B W W') : KeepsFrom B' W W' := ⟨h.size, fun k o hk => h.same k o (Nat.le_trans hB hk)⟩
theorem keeps_put {B l : Nat} {W : World} (o : Obj) (hl : l < B) : KeepsFrom B W (W.putObj l o) :=
  ⟨(grownBy_putObj' W l o).size, fun k o' hk e _ => (World.putObj_heap_other (by omega)).trans e⟩
/-- As SeqC; the round leaves what is no cells and lies where the iterator was called or behind it. -/
def SeqD {α : Type} (F : Fence) (n : Nat) (P : Program) (g : Nat) (lb : Array Value) (encs : α → Array Value) (S : World → Nat → Prop) (Sd Sp : List α → Prop) (N : Nat) (w : World) : Prop :=
  ∀ (l : Nat) (J Jx : List α → World → Prop) (W : World), Below w.heap.size w W → Calm W.heap.size S J → Calm W.heap.size S Jx →
    (∀ pre x W1, J pre W1 → pre.length < N → YieldAt F (n - 1) P l (encs x) W1 fun e W' =>
      (e = .returned (.bool true) ∧ J (pre ++ [x]) W' ∧ Kc S W1 W' ∧ KeepsFrom W.heap.size W1 W') ∨ (e = .returned (.bool false) ∧ Jx (pre ++ [x]) W' ∧ KeepsFrom W.heap.size W1 W')) →
    J [] W →
    CallsIn F n P g (#[.func (.yield l) #[] #[]] ++ lb) W fun e W' => (∃ v, e = .returned v) ∧ ((∃ xs, Sd xs ∧ J xs W') ∨ (∃ pre, Sp pre ∧ Jx pre W'))
theorem SeqC.deep {α : Type} {F : Fence} {n : Nat} {P : Program} {g : Nat} {lb : Array Value} {encs : α → Array Value} {S : World → Nat → Prop} {Sd Sp : List α → Prop} {N : Nat} {w : World} (h : SeqC F n P g lb encs S Sd Sp N w) : SeqD F n P g lb encs S Sd Sp N w :=
  fun l J Jx W b c cx hY h0 => h l J Jx W b c cx (fun pre x W1 hj hl => (hY pre x W1 hj hl).mono fun e W' q => by
    rcases q with ⟨q1, q2, q3, _⟩ | ⟨q1, q2, _⟩
    · exact .inl ⟨q1, q2, q3⟩
    · exact .inr ⟨q1, q2⟩) h0
section
variable {α : Type} {P : Program} {n : Nat} {g : Operand} {ps : Array Tmp} {assign body : Code} {Q : Exit → Act → World → Prop} {a : Act} {w : World} {gf : Nat} {lb : Array Value} {encs : α → Array Value} {S : World → Nat → Prop} {Sd Sp : List α → Prop} {N : Nat}
theorem range_deep (h1 : 1 ≤ n) (hg : a.eval g = .func (.func gf) #[] lb) (eg : ∀ args w, (callFunc gf args).run P w = .ok (.enter gf args) w) (st : Still S w.heap.size)
    (hseq : SeqD Fence.wide (n - 1) P gf lb encs S Sd Sp N w) (hps : ∀ x, (encs x).size = ps.size)
    (I : List α → World → Prop) (Ix : Code → List α → World → Prop) (hI : Calm w.heap.size S I) (hIx : ∀ c, Calm w.heap.size S (Ix c)) (h0 : I [] w)
    (Ax : α → Act → World → Prop) (hAx : ∀ x a' W (l : Nat) (o o' : Obj), Ax x a' W → w.heap.size ≤ l → W.heap[l]? = some o → o.isCells = false → Ax x a' (W.putObj l o'))
    (hassign : ∀ (l : Nat) (pre : List α) (x : α) (W : World) (K : Act → World → Prop), I pre W → (∀ a' W', KeepsFrom w.heap.size W W' → Kc S W W' → I pre W' → Ax x a' W' → K a' W') →
      assign.wpIn (Fence.wide.inRound l) (n - 1 - 1) P (Exit.then K (fun _ _ _ => False)) { tmps := (ps.zip (encs x)).foldl (fun t (p, v) => t.setIfInBounds p v) a.tmps, defers := [] } W)
    (hbody : ∀ (l : Nat) (pre : List α) (x : α) (a' : Act) (W : World), w.heap.size ≤ l → (∃ r, W.heap[l]? = some (.loop r)) → I pre W → Ax x a' W → pre.length < N → body.wpIn (Fence.wide.inRound l) (n - 1 - 1) P (ownPostG w.heap.size (Kc S) I Ix (pre ++ [x]) W) a' W)
    (hdone : ∀ (D : Nat) (xs : List α) (W : World), w.heap.size ≤ D → Sd xs → I xs W → W.heap[D]? = some (.deferred (some [])) → Q .normal { a with defers := { target := .collected D, args := #[] } :: a.defers } W)
    (hstop : ∀ (D : Nat) (c : Code) (pre : List α) (W : World), w.heap.size ≤ D → Sp pre → Ix c pre W → W.heap[D]? = some (.deferred (some [])) → c.wpIn Fence.wide n P Q { a with defers := { target := .collected D, args := #[] } :: a.defers } W) :
    (Code.rangeFunc g ps assign body).wpIn Fence.wide n P Q a w := by
  refine wpIn_rangeFunc fun fn hfn => ?_
  show ∃ l mark w₁ d w₁' f args w₂, (Instr.enterLoop fn a.tmps ps assign body none).run P w = .ok (l, mark) w₁ ∧ _
  obtain ⟨R, hR⟩ : ∃ R : LoopState → Option Code → Loop, R = fun st pe => { state := st, pending := pe, fn, tmps := a.tmps, params := ps, assign, body, defers := w.heap.size } := ⟨_, rfl⟩
  obtain ⟨V, hV⟩ : ∃ V, (w.alloc (.deferred (some []))).alloc (.loop (R .ready none)) = V := ⟨_, rfl⟩
  have bk : Books w.heap.size (w.heap.size + 1) (R .ready none) V := by
    rw [← hV]
    exact ⟨heap_alloc2_new w _ _, heap_alloc2_old w _ _⟩
  have bV : Below w.heap.size w V := by rw [← hV]; exact ((Below.refl _ w).alloc (Nat.le_refl _) _).alloc (by simp) _
  have sV : V.heap.size = w.heap.size + 2 := by rw [← hV]; simp
  have iV : I [] V := hI.grow (Nat.le_refl _) bV h0
  refine ⟨w.heap.size + 1, [{ target := .collected w.heap.size, args := #[] }], V, { target := .fn (.func gf) lb, args := #[.func (.yield (w.heap.size + 1)) #[] #[]] }, V, gf, #[.func (.yield (w.heap.size + 1)) #[] #[]] ++ lb, V, ?_, ?_, fun _ _ => trivial, ?_, fun _ => h1, ?_⟩
  · rw [← hV, hR]; exact run_enterLoop_outer _ _ _ _ _
  · simp only [resolve, hg]
    simp [go_sem]
  · simp [invoke, go_sem, eg]
  have up : w.heap.size ≤ V.heap.size := bV.size
  have hd : w.heap.size < V.heap.size := by omega
  have hl : w.heap.size + 1 < V.heap.size := by omega
  have ne : w.heap.size ≠ w.heap.size + 1 := by omega
  refine (hseq (w.heap.size + 1)
    (fun pre W => I pre W ∧ Books w.heap.size (w.heap.size + 1) (R .ready none) W)
    (fun pre W => ∃ c, Ix c pre W ∧ Books w.heap.size (w.heap.size + 1) (R .done (some c)) W)
    V bV ((hI.up up).and (Books.calm hd hl))
    (fun s A C hj b k => by
      obtain ⟨c, h2, h3⟩ := hj
      exact ⟨c, (hIx c).up up s A C h2 b k, Books.calm (S := S) (β := List α) hd hl s A C h3 b k⟩)
    ?_ ⟨iV, bk⟩).mono ?_
  · rintro pre x W ⟨hi, hb⟩ hlen
    have hy := run_yield (P := P) (args := encs x) hb.lo (by rw [hR]; exact hps x)
    rw [hR] at hy
    refine ⟨fn, _, assign, body, hy, roundIn_of_wpIn hfn (hassign _ pre x W _ hi ?_)⟩
    clear hy
    intro a' Wa ka kc ia ax
    have ba := hb.kept ka (Nat.le_refl _) (by omega)
    have kb := Kc.put (W := Wa) (o' := .loop { R .ready none with state := .busy }) st (show w.heap.size ≤ w.heap.size + 1 by omega) ba.lo rfl
    have bb : Books w.heap.size (w.heap.size + 1) { R .ready none with state := .busy } (Wa.putObj (w.heap.size + 1) (.loop { R .ready none with state := .busy })) := ba.turn ne
    refine ⟨_, run_beginRound ba.lo (by rw [hR]), ?_⟩
    refine wpIn_mono (hbody _ pre x a' _ (by omega) ⟨_, bb.lo⟩ (hI.put _ (by omega) ba.lo rfl ia) (hAx x a' _ _ _ _ ax (by omega) ba.lo rfl) hlen) ?_
    have fin : ∀ (jump : Option Code) (W3 : World), KeepsFrom w.heap.size (Wa.putObj (w.heap.size + 1) (.loop { R .ready none with state := .busy })) W3 →
        ∃ r0 : Loop, W3.heap[w.heap.size + 1]? = some (.loop r0) ∧ (Instr.endRound (w.heap.size + 1) jump).run P W3 = .ok (.bool jump.isNone) (W3.putObj (w.heap.size + 1) (.loop (R (if jump.isNone then .ready else .done) jump))) ∧
        Books w.heap.size (w.heap.size + 1) (R (if jump.isNone then .ready else .done) jump) (W3.putObj (w.heap.size + 1) (.loop (R (if jump.isNone then .ready else .done) jump))) := fun jump W3 k3 => by
      have b3 := bb.kept k3 (Nat.le_refl _) (by omega)
      have e := run_endRound (P := P) jump b3.lo
      rw [hR] at e ⊢
      refine ⟨_, b3.lo, e, ?_⟩
      rw [hR] at b3
      exact b3.turn ne
    have kall : ∀ (jump : Option Code) (W3 : World), KeepsFrom w.heap.size (Wa.putObj (w.heap.size + 1) (.loop { R .ready none with state := .busy })) W3 → KeepsFrom V.heap.size W (W3.putObj (w.heap.size + 1) (.loop (R (if jump.isNone then .ready else .done) jump))) := fun jump W3 k3 =>
      ((keeps_up up ka).trans (keeps_put _ hl)).trans ((keeps_up up k3).trans (keeps_put _ hl))
    rintro e a3 W3 hp
    cases e with
    | normal =>
      obtain ⟨k3, c3, i3⟩ := hp
      obtain ⟨r0, l3, e3, b4⟩ := fin none W3 k3
      exact ⟨_, _, e3, .inl ⟨rfl, ⟨hI.put _ (by omega) l3 rfl i3, b4⟩, kc.trans (kb.trans (c3.trans (Kc.put st (by omega) l3 rfl))), kall none W3 k3⟩⟩
    | ret =>
      obtain ⟨k3, i3⟩ := hp
      obtain ⟨r0, l3, e3, b4⟩ := fin (some .ret) W3 k3
      exact ⟨_, _, e3, .inr ⟨rfl, ⟨_, (hIx _).put _ (by omega) l3 rfl i3, b4⟩, kall (some .ret) W3 k3⟩⟩
    | exit id =>
      obtain ⟨k3, i3⟩ := hp
      obtain ⟨r0, l3, e3, b4⟩ := fin (some (.exit id)) W3 k3
      exact ⟨_, _, e3, .inr ⟨rfl, ⟨_, (hIx _).put _ (by omega) l3 rfl i3, b4⟩, kall (some (.exit id)) W3 k3⟩⟩
    | goto t =>
      obtain ⟨k3, i3⟩ := hp
      obtain ⟨r0, l3, e3, b4⟩ := fin (some (.goto t)) W3 k3
      exact ⟨_, _, e3, .inr ⟨rfl, ⟨_, (hIx _).put _ (by omega) l3 rfl i3, b4⟩, kall (some (.goto t)) W3 k3⟩⟩
    | panic ch => exact hp.elim
    | outgrown => exact hp.elim
  · rintro e W2 ⟨⟨v, rfl⟩, (⟨xs, hS, hi, hb⟩ | ⟨pre, hS, c, hi, hb⟩)⟩
    · refine ⟨none, _, by have := run_endLoop (P := P) hb.lo (by rw [hR]; simp); rw [hR] at this; exact this, hdone _ xs _ (Nat.le_refl _) hS (hI.put _ (by omega) hb.lo rfl hi) ((World.putObj_heap_other ne).trans hb.de)⟩
    · refine ⟨some c, _, by have := run_endLoop (P := P) hb.lo (by rw [hR]; simp); rw [hR] at this; exact this, hstop _ c pre _ (Nat.le_refl _) hS ((hIx c).put _ (by omega) hb.lo rfl hi) ((World.putObj_heap_other ne).trans hb.de)⟩
end
section
variable {P : Program}
/-- The marks taken off, at any level. -/
theorem leave_marksN {n : Nat} {fn : Func} {tmps : Array Value} {R : Ending → World → Prop} {v : Value} : ∀ (Ds : List Nat) (w : World), Ds.Nodup → (∀ D, D ∈ Ds → w.heap[D]? = some (.deferred (some []))) →
    (results fn tmps).run P (unmark Ds w) = .ok v (unmark Ds w) → R (.returned v) (unmark Ds w) → LeavesInM Fence.wide n P fn tmps R (marks Ds) .returning w
  | [], w, _, _, h, hR => ⟨v, h, hR⟩
  | D :: Ds, w, hn, hD, h, hR => by
    obtain ⟨n1, n2⟩ := List.nodup_cons.1 hn
    refine ⟨by simp, .inl ⟨_, _, rfl, run_takeDeferred (hD D (by simp)), leave_marksN Ds _ n2 (fun E hE => ?_) h hR⟩⟩
    have hne : E ≠ D := fun e => n1 (by rw [← e]; exact hE)
    exact (World.putObj_heap_other hne).trans (hD E (by simp [hE]))
/-- What hangs on other blocks stays as the marks are taken off. -/
theorem unmark_calm {β : Type} {B : Nat} {S : World → Nat → Prop} {J : β → World → Prop} {s : β} (h : Calm B S J) : ∀ (Ds : List Nat) (w : World), Ds.Nodup → (∀ D, D ∈ Ds → B ≤ D ∧ w.heap[D]? = some (.deferred (some []))) → J s w → J s (unmark Ds w)
  | [], _, _, _, hj => hj
  | D :: Ds, w, hn, hD, hj => by
    obtain ⟨n1, n2⟩ := List.nodup_cons.1 hn
    obtain ⟨d1, d2⟩ := hD D (by simp)
    refine unmark_calm h Ds _ n2 (fun E hE => ⟨(hD E (by simp [hE])).1, ?_⟩) (h.put _ d1 d2 rfl hj)
    have hne : E ≠ D := fun e => n1 (by rw [← e]; exact hE)
    exact (World.putObj_heap_other hne).trans (hD E (by simp [hE])).2
/-- A round called from within another one's. -/
theorem round_in {n m l l0 : Nat} {f : FuncId} {tmps : Array Value} {assign body : Code} {w : World} {R : Ending → World → Prop} (h : RoundIn Fence.wide m P l0 f tmps assign body w R) : RoundIn (Fence.wide.inRound l) n P l0 f tmps assign body w R :=
  ⟨h.1, fun c cs _ => h.2 c cs (room_wide _)⟩
end
end Go.Proofs.Ytdcjgcjnfcahkaa
/- What is told of an order that came, in a block; no program's function. -/
namespace Go.Proofs.Ytdcjgcjnfcahkaa
open Go.RowKit Go.Shelf
set_option linter.unusedVariables false

/-- It as cells: trades, numbers, how much was traded, how much rests. -/
structure Px where
  ta : Option Addr
  tn : Nat
  tc : Nat
  na : Option Addr
  nn : Nat
  nc : Nat
  fi : Int
  lf : Int
def Px.tv (p : Px) : Value := .slice p.ta p.tn p.tc
def Px.nv (p : Px) : Value := .slice p.na p.nn p.nc
def Px.cells (p : Px) : List Value := [.slice p.ta p.tn p.tc, .slice p.na p.nn p.nc, .int .i64 p.fi, .int .i64 p.lf]
def EPx : Elt Px := ⟨Px.cells, 4, by decide, fun _ => rfl, fun x u hu => by
  simp only [Px.cells, List.mem_cons, List.not_mem_nil, or_false] at hu
  rcases hu with rfl | rfl | rfl | rfl <;> rfl⟩
def zeroPx : Px := ⟨none, 0, 0, none, 0, 0, 0, 0⟩
theorem zero_px (w : World) : (zeroValue 49).run Try.prog w = .ok (.agg (EPx.cells zeroPx).toArray) w := by kernel_rfl
theorem size_px : (Try.prog.info? 49).map (·.size) = some 4 := by kernel_rfl
theorem built_px0 : Try.prog.built 49 [] = some (EPx.cells zeroPx).toArray := by kernel_rfl
theorem built_px3 (n : Int) : Try.prog.built 49 [(3, .int .i64 n)] = some (EPx.cells { zeroPx with lf := n }).toArray := by kernel_rfl
section
variable {ops : Array Oper} {rest : List Oper} {a : Act} {w : World} {Q : Exit → Act → World → Prop} {d : Option Nat} {x y : Operand} {ty : TypeId} {ps : String} {af : Array Edge} {gd : Option (Nat × Bool)}
theorem wl_load_px {s : Px} (b o : Nat) (hb : w.rangeAt b o (EPx.cells s))
    (hw : Region.wanted ⟨d, .load 49 x, ty, ps, af, gd⟩ (yielded ops a.tmps) = true) (hx : a.eval x = .pointer (some ⟨b, o, none⟩)) (h : wpList Try.prog ops Q rest (a.put d (.agg (EPx.cells s).toArray)) w) : wpList Try.prog ops Q (⟨d, .load 49 x, ty, ps, af, gd⟩ :: rest) a w :=
  BigFrame.wpList_want hw fun _ hK => wp_load_mid 49 x rfl b o hx (EPx.cells s) _ hb Try.underlying49 rfl (by rw [size_px, EPx.len]; rfl) (hK _ _ h)
theorem wl_store_px (s : Px) {t : Px} (g : Nat) (hb : EPx.Bx 49 w g t) (hx : a.eval x = .pointer (some ⟨g, 0, none⟩)) (hy : a.eval y = .agg (EPx.cells s).toArray)
    (h : wpList Try.prog ops Q rest (a.put d undef) (w.setRow g (EPx.cells s).toArray)) : wpList Try.prog ops Q (⟨d, .store 49 x y, ty, ps, af, none⟩ :: rest) a w :=
  wpList_store_row rfl 49 x y rfl g (EPx.cells s).toArray hx hy 49 (EPx.cells t).toArray hb (by rw [size_px, List.size_toArray, EPx.len]; rfl) (by rw [List.size_toArray, List.size_toArray, EPx.len, EPx.len]) (gall_one s) h
set_option maxRecDepth 100000 in
theorem wl_build0_px (h : wpList Try.prog ops Q rest (a.put d (.agg (EPx.cells zeroPx).toArray)) w) :
    wpList Try.prog ops Q ({ dst := d, op := .build 49 #[], type := ty, pos := ps, after := af, guard := none } :: rest) a w := gwl_build0 (E := EPx) built_px0 h
theorem wl_build3_px (n : Int) (hx : a.eval x = .int .i64 n) (h : wpList Try.prog ops Q rest (a.put d (.agg (EPx.cells { zeroPx with lf := n }).toArray)) w) :
    wpList Try.prog ops Q ({ dst := d, op := .build 49 #[(3, x)], type := ty, pos := ps, after := af, guard := none } :: rest) a w := by
  have e : ((#[(3, x)] : Array (Nat × Operand)).map fun (i, x) => (i, a.eval x)).toList = [(3, .int .i64 n)] := by simp [hx]
  refine wpList_build rfl 49 #[(3, x)] rfl (by rw [e, built_px3]; rfl) ?_
  rw [e, built_px3]
  exact h
end
theorem ret_px {fn : Func} {p : Tmp} (h : fn.results = #[.cell p 49]) (tmps : Array Value) (w : World) (g : Nat) {s : Px} (hp : tmps.getD p undef = .pointer (some ⟨g, 0, none⟩)) (hb : EPx.Bx 49 w g s) :
    (results fn tmps).run Try.prog w = .ok (.agg (EPx.cells s).toArray) w :=
  results_cell_row h tmps w g 49 (EPx.cells s).toArray (0, 0) _ hp hb Try.underlying49 rfl (by rw [size_px, List.size_toArray, EPx.len]; rfl)
theorem ret_px2 {fn : Func} {p u : Tmp} (h : fn.results = #[.cell p 49, .tmp u]) (tmps : Array Value) (w : World) (g : Nat) {s : Px} {v : Value} (hp : tmps.getD p undef = .pointer (some ⟨g, 0, none⟩)) (hv : tmps.getD u undef = v) (hb : EPx.Bx 49 w g s) :
    (results fn tmps).run Try.prog w = .ok (.tuple #[.agg (EPx.cells s).toArray, v]) w := by
  have e := run_loadVar_row (P := Try.prog) w g 49 49 (EPx.cells s).toArray (0, 0) _ hb Try.underlying49 rfl (by rw [size_px, List.size_toArray, EPx.len]; rfl)
  rw [results_cell_tmp h]
  simp [hp, hv, asAddr, e]
theorem four' {α : Type} {l : Array α} (h : l.size = 4) : ∃ a b c d, l = #[a, b, c, d] := by
  obtain ⟨l⟩ := l
  match l, h with
  | [a, b, c, d], _ => exact ⟨a, b, c, d, rfl⟩
theorem fill_td (o : Td) (z : Value) (h : z.cells.size = ET.N) : Instr.fill (fun i => some (i * ET.N, ET.N)) ((Array.range (1 * ET.N)).map (z.cells[· % z.cells.size]!)) [(0, .agg (ET.cells o).toArray)] = some (ET.cells o).toArray := by
  obtain ⟨a, b, c, d, hz⟩ := four' (show z.cells.size = 4 from h)
  rw [hz]
  obtain ⟨pr, qt, nu, ac⟩ := o
  kernel_rfl
theorem px_new (w : World) : ∃ W1, w.alloc (.cells (EPx.cells zeroPx).toArray 49) = W1 ∧ Below w.heap.size w W1 ∧ EPx.Bx 49 W1 w.heap.size zeroPx ∧ W1.heap.size = w.heap.size + 1 := ⟨_, rfl, below_new w _, gbx_new w _, by simp⟩
/-- One laid in a new block. -/
theorem put_px {W1 W2 : World} (x : Px) (q : Below W1.heap.size W1 W2) : ∃ W3, (W2.alloc (.cells (EPx.cells zeroPx).toArray 49)).setRow W2.heap.size (EPx.cells x).toArray = W3 ∧ Below W1.heap.size W1 W3 ∧ EPx.Bx 49 W3 W2.heap.size x ∧ EPx.Bx 49 (W2.alloc (.cells (EPx.cells zeroPx).toArray 49)) W2.heap.size zeroPx ∧ W2.heap.size < W3.heap.size := by
  have b := below_row0 (cs := (EPx.cells x).toArray) (below_new W2 (.cells (EPx.cells zeroPx).toArray 49)) (Nat.le_refl _)
  have y := gbx_set (x := x) (gbx_new (E := EPx) (te := 49) W2 zeroPx)
  exact ⟨_, rfl, q.trans (b.mono q.size), y, gbx_new W2 zeroPx, (Array.getElem?_eq_some_iff.1 y).1⟩
/-- Its lists. -/
structure Px.Is (p : Px) (W : World) (B : Nat) (td : List Td) (gn : List Int) : Prop where
  to : ET.Own 63 W B p.tv td
  no : ENu.Own 28 W B p.nv gn
/-- The blocks of its rows. -/
def Px.own (p : Px) (k : Nat) : Prop := p.tv.ownBlock = some k ∨ p.nv.ownBlock = some k
section
variable {p : Px} {W W' : World} {B : Nat} {td : List Td} {gn : List Int}
theorem Px.Is.zero (W : World) (B : Nat) : zeroPx.Is W B [] [] := ⟨gown_nil _ _, gown_nil _ _⟩
theorem Px.Is.fr {S : Nat → Prop} (h : p.Is W B td gn) (f : Fr S W W') (hS : ∀ k, p.own k → ¬ S k) : p.Is W' B td gn := ⟨gown_fr h.to f (fun k hk => hS k (.inl hk)), gown_fr h.no f (fun k hk => hS k (.inr hk))⟩
theorem Px.Is.below (h : p.Is W B td gn) (q : Below W.heap.size W W') : p.Is W' B td gn := ⟨gown_below h.to q, gown_below h.no q⟩
theorem Px.Is.lt (h : p.Is W B td gn) {k : Nat} (hk : p.own k) : B ≤ k ∧ k < W.heap.size := hk.elim (gown_lt h.to) (gown_lt h.no)
theorem Px.Is.low {B' : Nat} (h : p.Is W B td gn) (hB : B' ≤ B) : p.Is W B' td gn := ⟨gown_low h.to hB, gown_low h.no hB⟩
/-- A block of another type is none of its rows. -/
theorem Px.Is.ne (h : p.Is W B td gn) {k : Nat} {cs : Array Value} {te : TypeId} {f : Nat × Nat} (e : W.heap[k]? = some (.cells cs te f)) (h1 : te ≠ 63) (h2 : te ≠ 28) : ¬ p.own k := by
  rintro (hk | hk)
  · obtain ⟨cur, e'⟩ := gown_cells h.to hk
    rw [e] at e'; injection e' with e'; injection e' with _ e'; exact h1 e'
  · obtain ⟨cur, e'⟩ := gown_cells h.no hk
    rw [e] at e'; injection e' with e'; injection e' with _ e'; exact h2 e'
/-- Its two rows are two. -/
theorem Px.Is.two (h : p.Is W B td gn) {k : Nat} (h1 : p.tv.ownBlock = some k) : p.nv.ownBlock ≠ some k := fun h2 => by
  obtain ⟨cur, e⟩ := gown_cells h.to h1
  obtain ⟨cur', e'⟩ := gown_cells h.no h2
  rw [e] at e'; injection e' with e'; injection e' with _ e'
  exact absurd e' (by decide)
theorem Px.Is.tl (h : p.Is W B td gn) : p.tn = td.length := by
  obtain ⟨A, c, e, _⟩ := gown_form h.to
  injection e
theorem Px.Is.nl (h : p.Is W B td gn) : p.nn = gn.length := by
  obtain ⟨A, c, e, _⟩ := gown_form h.no
  injection e
end
end Go.Proofs.Ytdcjgcjnfcahkaa
/- The program's book: what All tells. -/
namespace Go.Proofs.Ytdcjgcjnfcahkaa
open Go.RowKit Go.Shelf
set_option linter.unusedVariables false
set_option linter.unusedSimpArgs false

/-- The program's side lies in cells. -/
structure CellK (Pd : PdT) : Prop where
  of : ∀ {w : World} {F : Nat → Prop} {g : Nat} {buy : Bool} {os : List Or} {t : Nat}, Pd w F g buy os t → ∀ k, F k → ∃ cs ty f, w.heap[k]? = some (.cells cs ty f)
/-- Within the iterator: the book, the iterator's variable, the boxes of yield and of both sides. -/
structure ItB (Pd : PdT) (S : World → Nat → Prop) (N C Y A : Nat) (G : Nat) (g : Bool → Nat) (F : Bool → Nat → Prop) (T : Sd) (t l0 : Nat) (W : World) : Prop where
  bp : Bp Pd W G g F T t
  cb : W.heap[C]? = some (.cells #[.pointer (some ⟨G, 0, none⟩)] 23 (0, 0))
  yb : W.heap[Y]? = some (.cells #[.func (.yield l0) #[] #[]] 81 (0, 0))
  ab : W.heap[A]? = some (.cells #[.pointer (some ⟨g true, 0, none⟩), .pointer (some ⟨g false, 0, none⟩)] 42 (0, 0))
  sz : N ≤ W.heap.size
  wf : ∀ k, S W k → k < W.heap.size
  ap : ∀ k, (k = C ∨ BpF G F k ∨ k = Y ∨ k = A) → ¬ S W k
section
variable {Pd : PdT} {zs : Array Value} {S : World → Nat → Prop} {N C Y A G : Nat} {g : Bool → Nat} {F : Bool → Nat → Prop} {T : Sd} {t l0 : Nat} {W W' : World}
theorem Bp.cells (CK : CellK Pd) (h : Bp Pd W G g F T t) {k : Nat} (hk : BpF G F k) : ∃ cs ty f, W.heap[k]? = some (.cells cs ty f) := by
  rcases hk with rfl | ⟨b, hk⟩
  · exact ⟨_, _, _, h.blk⟩
  · exact CK.of (h.pd b) k hk
theorem ItB.lt (K : SideK Pd zs) (h : ItB Pd S N C Y A G g F T t l0 W) {k : Nat} (hk : k = C ∨ BpF G F k ∨ k = Y ∨ k = A) : k < W.heap.size := by
  rcases hk with rfl | hk | rfl | rfl
  · exact (Array.getElem?_eq_some_iff.1 h.cb).1
  · exact h.bp.lt K hk
  · exact (Array.getElem?_eq_some_iff.1 h.yb).1
  · exact (Array.getElem?_eq_some_iff.1 h.ab).1
theorem ItB.below (K : SideK Pd zs) (st : Still S N) (h : ItB Pd S N C Y A G g F T t l0 W) (q : Below W.heap.size W W') : ItB Pd S N C Y A G g F T t l0 W' := by
  have s := st W W' h.sz (fun k hk => q.block k (Nat.lt_of_lt_of_le hk h.sz))
  exact ⟨h.bp.below K q, (q.block C (Array.getElem?_eq_some_iff.1 h.cb).1).trans h.cb, (q.block Y (Array.getElem?_eq_some_iff.1 h.yb).1).trans h.yb, (q.block A (Array.getElem?_eq_some_iff.1 h.ab).1).trans h.ab, Nat.le_trans h.sz q.size, fun k hk => Nat.lt_of_lt_of_le (h.wf k (s k hk)) q.size, fun k hk c => h.ap k hk (s k c)⟩
theorem ItB.kept (K : SideK Pd zs) (CK : CellK Pd) (h : ItB Pd S N C Y A G g F T t l0 W) (k : Kc S W W') : ItB Pd S N C Y A G g F T t l0 W' := by
  obtain ⟨h1, h2, h3, h4⟩ := k h.wf
  have f : Fr (fun k => ¬ BpF G F k) W W' := ⟨h3, fun k hk hn => by
    have hk' : BpF G F k := Classical.not_not.1 hn
    exact h4 k hk (h.ap k (.inr (.inl hk'))) (h.bp.cells CK hk')⟩
  refine ⟨h.bp.keep K f (fun k hk c => c hk), (h4 C (h.lt K (.inl rfl)) (h.ap C (.inl rfl)) ⟨_, _, _, h.cb⟩).trans h.cb, (h4 Y (h.lt K (.inr (.inr (.inl rfl)))) (h.ap Y (.inr (.inr (.inl rfl)))) ⟨_, _, _, h.yb⟩).trans h.yb, (h4 A (h.lt K (.inr (.inr (.inr rfl)))) (h.ap A (.inr (.inr (.inr rfl)))) ⟨_, _, _, h.ab⟩).trans h.ab, Nat.le_trans h.sz h3.size, h1, fun j hj c => ?_⟩
  rcases h2 j c with c | c
  · exact h.ap j hj c
  · have := h.lt K hj; omega
theorem Still.up {S : World → Nat → Prop} {N B : Nat} (h : Still S N) (hB : N ≤ B) : Still S B := fun A C hA hk k hs => h A C (Nat.le_trans hB hA) (fun j hj => hk j (Nat.lt_of_lt_of_le hj hB)) k hs
/-- It hangs on blocks below B. -/
theorem ItB.upon {B : Nat} (K : SideK Pd zs) (st : Still S N) (hB : ∀ k, (k = C ∨ BpF G F k ∨ k = Y ∨ k = A) → k < B) (hN : N ≤ B) (h : ItB Pd S N C Y A G g F T t l0 W) (b : Below B W W') : ItB Pd S N C Y A G g F T t l0 W' := by
  have s := st W W' h.sz (fun k hk => b.block k (Nat.lt_of_lt_of_le hk hN))
  have f : Fr (fun k => B ≤ k) W W' := ⟨b.mono (Nat.zero_le _), fun k hk hn => b.block k (by omega)⟩
  refine ⟨h.bp.keep K f (fun k hk c => ?_), (b.block C (hB C (.inl rfl))).trans h.cb, (b.block Y (hB Y (.inr (.inr (.inl rfl))))).trans h.yb, (b.block A (hB A (.inr (.inr (.inr rfl))))).trans h.ab, Nat.le_trans h.sz b.size, fun k hk => Nat.lt_of_lt_of_le (h.wf k (s k hk)) b.size, fun k hk c => h.ap k hk (s k c)⟩
  have := hB k (.inr (.inl hk)); omega
theorem wlIn_load_orr {l n : Nat} {ops : Array Oper} {rest : List Oper} {a : Act} {w : World} {Q : Exit → Act → World → Prop} {d : Option Nat} {x : Operand} {ty : TypeId} {ps : String} {af : Array Edge} {gd : Option (Nat × Bool)} {s : Or} (b o : Nat) (hb : w.rangeAt b o (EO.cells s))
    (hw : Region.wanted ⟨d, .load 31 x, ty, ps, af, gd⟩ (yielded ops a.tmps) = true) (hx : a.eval x = .pointer (some ⟨b, o, none⟩)) (h : wpListIn (Fence.wide.inRound l) n Try.prog ops Q rest (a.put d (.agg (EO.cells s).toArray)) w) : wpListIn (Fence.wide.inRound l) n Try.prog ops Q (⟨d, .load 31 x, ty, ps, af, gd⟩ :: rest) a w :=
  wpListIn_step fun K hK => by
    rw [if_pos hw]
    obtain ⟨fs, hu⟩ := TO.row
    exact op_in (fun c e => by cases e) (wp_load_mid 31 x rfl b o hx (EO.cells s) _ hb hu rfl (by rw [gsize TO, EO.len]) (hK _ _ h))
end
section
attribute [local go_sem] Oper.semAt_some
variable {Pd : PdT} {zs : Array Value} {S : World → Nat → Prop} {N C G : Nat} {g : Bool → Nat} {F : Bool → Nat → Prop} {T : Sd} {t : Nat}
set_option maxRecDepth 100000 in
set_option maxHeartbeats 4000000 in
theorem pall1_in (n l0 : Nat) (hn : 5 ≤ n) (K : SideK Pd zs) (CK : CellK Pd) (st : Still S N) (J Jx : List OkOr → World → Prop) (W : World) (hNW : N ≤ W.heap.size) (cJ : Calm W.heap.size S J) (cX : Calm W.heap.size S Jx)
    (hY : ∀ pre x W1, J pre W1 → pre.length < T.all.length → YieldAt Fence.wide (n - 1) Try.prog l0 #[.agg (EO.cells x.1).toArray] W1 fun e W' =>
      (e = .returned (.bool true) ∧ J (pre ++ [x]) W' ∧ Kc S W1 W' ∧ KeepsFrom W.heap.size W1 W') ∨ (e = .returned (.bool false) ∧ Jx (pre ++ [x]) W' ∧ KeepsFrom W.heap.size W1 W'))
    (hb : Bp Pd W G g F T t) (hC : W.heap[C]? = some (.cells #[.pointer (some ⟨G, 0, none⟩)] 23 (0, 0))) (wf : ∀ k, S W k → k < W.heap.size) (ap : ∀ k, (k = C ∨ BpF G F k) → ¬ S W k) (h0 : J [] W) :
    CallsIn Fence.wide n Try.prog 50 #[.func (.yield l0) #[] #[], .pointer (some ⟨C, 0, none⟩)] W fun e W' => (∃ v, e = .returned v) ∧
      ((∃ xs, valsO xs = T.all ∧ J xs W') ∨ (∃ pre, valsO pre <+: T.all ∧ Jx pre W')) := by
  refine callsIn_of_wp_marks Try.func50 rfl trivial ?_ rfl
  simp only [Try.ntmps50, List.size_toArray, List.length_cons, List.length_nil, Nat.reduceAdd, Nat.reduceSub, Array.replicate_succ, Array.replicate_zero, List.push_toArray, List.append_toArray, List.nil_append, List.cons_append]
  have KH := Lib.hid K
  have CH := Lib.hid CK
  have ST := Lib.hid st
  have CJ := Lib.hid cJ
  have CX := Lib.hid cX
  have HY := Lib.hid hY
  have HB := Lib.hid hb
  have HC := Lib.hid hC
  have WF := Lib.hid wf
  have AP := Lib.hid ap
  have J0 := Lib.hid h0
  have NW := Lib.hid hNW
  have LC : Hid (C < W.heap.size) := Lib.hid (Array.getElem?_eq_some_iff.1 hC).1
  clear K CK st cJ cX hY hb hC wf ap h0 hNW
  obtain ⟨W1, hW1⟩ : ∃ W1, W.alloc (.cells #[.func (.yield l0) #[] #[]] 81) = W1 := ⟨_, rfl⟩
  have b1 : Below W.heap.size W W1 := hW1 ▸ below_new W _
  have y1 : W1.heap[W.heap.size]? = some (.cells #[.func (.yield l0) #[] #[]] 81 (0, 0)) := hW1 ▸ heap_alloc_new W _
  have HW1 := Lib.hid hW1
  have B1 := Lib.hid b1
  have Y1 := Lib.hid y1
  have CC : Hid (∀ U, Below W1.heap.size W1 U → U.cell? ⟨C, 0, none⟩ = some (.pointer (some ⟨G, 0, none⟩))) := Lib.hid fun U q => by
    have := LC.out; have := b1.size
    rw [cell_of_row _ _ _ _ _ _ ((q.block C (by omega)).trans ((b1.block C LC.out).trans HC.out))]; rfl
  have CB := Lib.hid fun (U : World) (q : Below W1.heap.size W1 U) => (HB.out.below KH.out b1).below KH.out q
  clear hW1 b1 y1
  refine wpIn_mono (Q := retOnly (bodyPostM Fence.wide n Try.prog _ _)) ?_ (fun e a w q => by cases e <;> first | exact q | exact q.elim)
  apply wpIn_seq_k; intro K1 h1
  refine wpIn_wide.2 ?_
  go_wp2_with fail
  rw [HW1.out]
  have cc1 := CC.out W1 (Below.refl _ _)
  apply wpIn_seq_k; intro K2 h2
  refine wpIn_wide.2 ?_
  go_wp2_with fail
  refine (pmiss_no (CB.out W1 (Below.refl _ _)).c0).mono ?_; rintro e w0 ⟨rfl, rfl⟩
  go_wp2_with fail
  apply wpIn_seq_k; intro K3 h3
  refine wpIn_wide.2 ?_
  refine wp_region_held_drew (S := fun U => Below W1.heap.size W1 U) (by kernel_rfl) (Below.refl _ _).drew (fun hH => ?_)
  refine wpAnyH_take (i := 0) (v := .pointer (some ⟨G, 0, none⟩)) rfl (by kernel_rfl) (by kernel_rfl) (by kernel_rfl) (fun _ _ _ h => h) (.inl ⟨by rfl, ?_⟩) (by assumption) ?_
  · intro W hW; have k := CC.out W hW; go_simp
  try simp only [List.getElem_toArray, List.getElem_cons_zero, Act.put, List.setIfInBounds_toArray, List.set_cons_zero, List.set_cons_succ]
  refine wpAnyH_take (i := 1) (v := .pointer (some ⟨G, 0, none⟩)) rfl (by kernel_rfl) (by kernel_rfl) (by kernel_rfl) (fun _ _ _ h => h) (.inl ⟨by rfl, ?_⟩) (by assumption) ?_
  · intro W hW; go_simp
  try simp only [List.getElem_toArray, List.getElem_cons_zero, List.getElem_cons_succ, Act.put, List.setIfInBounds_toArray, List.set_cons_zero, List.set_cons_succ]
  refine wpAnyH_take (i := 2) (v := .pointer (some ⟨G, 0, none⟩)) rfl (by kernel_rfl) (by kernel_rfl) (by kernel_rfl) (fun _ _ _ h => h) (.inl ⟨by rfl, ?_⟩) (by assumption) ?_
  · intro W hW; go_simp
  try simp only [List.getElem_toArray, List.getElem_cons_zero, List.getElem_cons_succ, Act.put, List.setIfInBounds_toArray, List.set_cons_zero, List.set_cons_succ]
  refine wpAnyH_take (i := 3) (v := .pointer (some ⟨g true, 0, none⟩)) rfl (by kernel_rfl) (by kernel_rfl) (by kernel_rfl) (fun _ _ _ h => h) (.inl ⟨by rfl, ?_⟩) (by assumption) ?_
  · intro W hW; have k := (CB.out W hW).c0; go_simp
  try simp only [List.getElem_toArray, List.getElem_cons_zero, List.getElem_cons_succ, Act.put, List.setIfInBounds_toArray, List.set_cons_zero, List.set_cons_succ]
  refine wpAnyH_take (i := 4) (v := .pointer (some ⟨G, 0, none⟩)) rfl (by kernel_rfl) (by kernel_rfl) (by kernel_rfl) (fun _ _ _ h => h) (.inl ⟨by rfl, ?_⟩) (by assumption) ?_
  · intro W hW; have k := CC.out W hW; go_simp
  try simp only [List.getElem_toArray, List.getElem_cons_zero, List.getElem_cons_succ, Act.put, List.setIfInBounds_toArray, List.set_cons_zero, List.set_cons_succ]
  refine wpAnyH_take (i := 5) (v := .pointer (some ⟨G, 0, none⟩)) rfl (by kernel_rfl) (by kernel_rfl) (by kernel_rfl) (fun _ _ _ h => h) (.inl ⟨by rfl, ?_⟩) (by assumption) ?_
  · intro W hW; go_simp
  try simp only [List.getElem_toArray, List.getElem_cons_zero, List.getElem_cons_succ, Act.put, List.setIfInBounds_toArray, List.set_cons_zero, List.set_cons_succ]
  refine wpAnyH_take (i := 6) (v := .pointer (some ⟨G, 1, none⟩)) rfl (by kernel_rfl) (by kernel_rfl) (by kernel_rfl) (fun _ _ _ h => h) (.inl ⟨by rfl, ?_⟩) (by assumption) ?_
  · intro W hW; go_simp
  try simp only [List.getElem_toArray, List.getElem_cons_zero, List.getElem_cons_succ, Act.put, List.setIfInBounds_toArray, List.set_cons_zero, List.set_cons_succ]
  refine wpAnyH_take (i := 7) (v := .pointer (some ⟨g false, 0, none⟩)) rfl (by kernel_rfl) (by kernel_rfl) (by kernel_rfl) (fun _ _ _ h => h) (.inl ⟨by rfl, ?_⟩) (by assumption) ?_
  · intro W hW; have k := (CB.out W hW).c1; go_simp
  try simp only [List.getElem_toArray, List.getElem_cons_zero, List.getElem_cons_succ, Act.put, List.setIfInBounds_toArray, List.set_cons_zero, List.set_cons_succ]
  refine wpAnyH_take (i := 10) (v := .int .i64 0) rfl (by kernel_rfl) (by kernel_rfl) (by kernel_rfl) (fun _ _ _ h => h) (.inl ⟨by rfl, ?_⟩) (by assumption) ?_
  · intro W hW; go_simp
  try simp only [List.getElem_toArray, List.getElem_cons_zero, List.getElem_cons_succ, Act.put, List.setIfInBounds_toArray, List.set_cons_zero, List.set_cons_succ]
  refine wpAnyH_ready (rs := [8]) (by decide +kernel) (by simp) (AllReadyH.cons rfl (fun KQ hK => ?_) AllReadyH.nil)
  go_simp
  have hH2 : Below W1.heap.size W1 (W1.alloc (.cells #[.pointer (some ⟨g true, 0, none⟩), .pointer (some ⟨g false, 0, none⟩)] 42)).drew := (below_new W1 (.cells #[.pointer (some ⟨g true, 0, none⟩), .pointer (some ⟨g false, 0, none⟩)] 42)).drew
  refine hK.out _ _ hH2 (fun _ => ?_)
  clear hK
  try simp only [List.setIfInBounds_toArray, List.set_cons_zero, List.set_cons_succ]
  refine wpAnyH_take (i := 9) (v := .int .i64 2) rfl (by kernel_rfl) (by kernel_rfl) (by kernel_rfl) (fun _ _ _ h => h) (.inl ⟨by rfl, ?_⟩) (by assumption) ?_
  · intro W hW; go_simp
  try simp only [List.getElem_toArray, List.getElem_cons_zero, List.getElem_cons_succ, Act.put, List.setIfInBounds_toArray, List.set_cons_zero, List.set_cons_succ]
  refine wpAnyH_done (by decide +kernel) ?_ _
  have ab := heap_alloc_new W1 (.cells #[.pointer (some ⟨g true, 0, none⟩), .pointer (some ⟨g false, 0, none⟩)] 42)
  have h9 := h3
  clear h3
  refine h9 _ _ ?_
  clear h9
  obtain ⟨W2, hW2⟩ : ∃ W2, (W1.alloc (.cells #[.pointer (some ⟨g true, 0, none⟩), .pointer (some ⟨g false, 0, none⟩)] 42)).drew = W2 := ⟨_, rfl⟩
  have ab : W2.heap[W1.heap.size]? = some (.cells #[.pointer (some ⟨g true, 0, none⟩), .pointer (some ⟨g false, 0, none⟩)] 42 (0, 0)) := by rw [← hW2]; exact ab
  rw [hW2] at hH2 ⊢
  have s1 := B1.out.size
  have I2 : Hid (ItB Pd S N C W.heap.size W1.heap.size G g F T t l0 W2) := Lib.hid (by
    have s := ST.out W W2 NW.out (fun k hk => ((B1.out.trans (hH2.mono B1.out.size)).block k (Nat.lt_of_lt_of_le hk NW.out)))
    have y1 := (Array.getElem?_eq_some_iff.1 Y1.out).1
    refine ⟨CB.out _ hH2, (hH2.block C (by have := LC.out; omega)).trans ((B1.out.block C LC.out).trans HC.out), (hH2.block _ y1).trans Y1.out, ab, Nat.le_trans NW.out (Nat.le_trans s1 hH2.size), fun k hk => Nat.lt_of_lt_of_le (WF.out k (s k hk)) (Nat.le_trans s1 hH2.size), fun k hk c => ?_⟩
    rcases hk with rfl | hk | rfl | rfl
    · exact AP.out _ (.inl rfl) (s _ c)
    · exact AP.out _ (.inr hk) (s _ c)
    · have := WF.out _ (s _ c); omega
    · have := WF.out _ (s _ c); omega)
  have J2 : Hid (J [] W2) := Lib.hid (CJ.out.grow (Nat.le_refl _) (B1.out.trans (hH2.mono B1.out.size)) J0.out)
  have S2 : Hid (W.heap.size ≤ W2.heap.size) := Lib.hid (Nat.le_trans s1 hH2.size)
  clear hH hH2 ab hW2 s1 CB CC cc1 J0 WF AP HB HC HW1
  refine wpIn_block ?_
  refine wpIn_loop_rounds 3 ?_
  rw [roundsIn_succ]
  have DN : Hid (∀ D : Nat, D ∈ ([] : List Nat) → W.heap.size ≤ D ∧ W2.heap[D]? = some (.deferred (some []))) := Lib.hid (fun D h => by simp at h)
  have kk : W2.cell? ⟨W1.heap.size, 0, none⟩ = some (.pointer (some ⟨g true, 0, none⟩)) := by rw [cell_of_row _ _ _ _ _ _ I2.out.ab]; rfl
  gi_wp2_with fail
  refine ⟨trivial, fun _ => by omega, (callsIn_wide.2 (KH.out.all (I2.out.bp.pd true))).mono ?_⟩; rintro e W03 ⟨gf, lb, T3, rfl, q3, en, hT, tell⟩
  have I3 := Lib.hid (I2.out.below KH.out ST.out q3)
  have J3 := Lib.hid (CJ.out.grow S2.out q3 J2.out)
  have S3 : Hid (W.heap.size ≤ W03.heap.size) := Lib.hid (Nat.le_trans S2.out q3.size)
  have DD : Hid (∀ D, D ∈ ([] : List Nat) → W.heap.size ≤ D ∧ D < W03.heap.size ∧ W03.heap[D]? = some (.deferred (some []))) := Lib.hid fun D hD => by
    have dd := DN.out D hD
    have dl := (Array.getElem?_eq_some_iff.1 dd.2).1
    exact ⟨dd.1, Nat.lt_of_lt_of_le dl q3.size, (q3.block D dl).trans dd.2⟩
  have AP3 : Hid (∀ k, T3 k → ¬ S W03 k) := Lib.hid fun k hk c => by
    rcases (hT k hk).2 with d | d
    · exact I3.out.ap k (.inr (.inl (.inr ⟨_, d⟩))) c
    · have := I2.out.wf k (ST.out W2 W03 I2.out.sz (fun j hj => q3.block j (Nat.lt_of_lt_of_le hj I2.out.sz)) k c); omega
  have TL := Lib.hid tell
  have EN := Lib.hid en
  have LT3 : Hid (∀ k, (k = C ∨ BpF G F k ∨ k = W.heap.size ∨ k = W1.heap.size) → k < W03.heap.size) := Lib.hid (fun k hk => I3.out.lt KH.out hk)
  clear q3 en hT tell kk
  gi_wp2_with fail
  refine range_calm (S := S) (by omega) rfl EN.out (ST.out.up I3.out.sz) (TL.out W03 S (n - 1) (Fr.refl _ _) (ST.out.up I3.out.sz) I3.out.wf AP3.out (by omega)) (fun _ => rfl)
    (fun pre U => ItB Pd S N C W.heap.size W1.heap.size G g F T t l0 U ∧ J ([] ++ pre) U ∧ W03.heap.size ≤ U.heap.size ∧ ∀ D, D ∈ ([] : List Nat) → U.heap[D]? = some (.deferred (some [])))
    (fun c pre U => c = .ret ∧ Jx ([] ++ pre) U ∧ ∀ D, D ∈ ([] : List Nat) → U.heap[D]? = some (.deferred (some [])))
    (fun s A B hj b k => ⟨hj.1.upon KH.out ST.out LT3.out I3.out.sz b, CJ.out.up S3.out _ A B hj.2.1 b k, Nat.le_trans hj.2.2.1 b.size, fun D hD => (b.block D (DD.out D hD).2.1).trans (hj.2.2.2 D hD)⟩)
    (fun c s A B hj b k => ⟨hj.1, CX.out.up S3.out _ A B hj.2.1 b k, fun D hD => (b.block D (DD.out D hD).2.1).trans (hj.2.2 D hD)⟩)
    ⟨I3.out, by simpa using J3.out, Nat.le_refl _, fun D hD => (DD.out D hD).2.2⟩
    (fun x a' U => ∃ bx, W03.heap.size ≤ bx ∧ EO.Bx 31 U bx x.1 ∧ a' = { tmps := #[.func (.yield l0) #[] #[], .pointer (some ⟨C, 0, none⟩), .pointer (some ⟨W.heap.size, 0, none⟩), undef, .pointer (some ⟨g true, 0, none⟩), .pointer (some ⟨bx, 0, none⟩), .pointer (some ⟨G, 0, none⟩), .bool false, .pointer (some ⟨G, 0, none⟩), .pointer (some ⟨G, 0, none⟩), .pointer (some ⟨G, 0, none⟩), .pointer (some ⟨g true, 0, none⟩), .pointer (some ⟨G, 0, none⟩), .pointer (some ⟨G, 0, none⟩), .pointer (some ⟨G, 1, none⟩), .pointer (some ⟨g false, 0, none⟩), .slice (some ⟨W1.heap.size, 0, none⟩) 2 2, .int .i64 2, .int .i64 0, .bool true, .pointer (some ⟨W1.heap.size, 0, none⟩), .pointer (some ⟨g true, 0, none⟩), .pointer (some ⟨g true, 0, none⟩), .func (.func gf) #[] lb, .agg (EO.cells x.1).toArray, undef, undef, undef, undef, undef], defers := [] })
    (fun x a' U l o o' hx hl ho hc => by
      obtain ⟨bx, h1, h2, h3⟩ := hx
      refine ⟨bx, h1, ?_, h3⟩
      show (U.putObj l o').heap[bx]? = _
      rw [World.putObj_heap_other (fun e => ?_)]
      · exact h2
      · subst e
        rw [show U.heap[bx]? = _ from h2] at ho
        cases ho
        cases hc) ?assign0 ?body0 ?done0 ?stop0
  case assign0 =>
    rintro l pre x U KK ⟨h1, h2, hsz, hd⟩ hK
    have HZ := Lib.hid (gbx_new (E := EO) (te := 31) U zeroOr)
    have hz := zero_or
    have HD := Lib.hid hd
    clear hd
    refine region_in rfl (fun ⟨_, _, h⟩ => h) ?_
    go_wp2_with (refine gwl_store TO x.1 U.heap.size HZ.out rfl rfl ?_)
    have q : Below U.heap.size U ((U.alloc (.cells (EO.cells zeroOr).toArray 31)).setRow U.heap.size (EO.cells x.1).toArray) := row_inO (Nat.le_refl _) (below_new U _)
    refine hK _ _ ⟨q.size, fun k o _ hk _ => (q.block k (Array.getElem?_eq_some_iff.1 hk).1).trans hk⟩ (Kc.below ST.out h1.sz q) ⟨h1.below KH.out ST.out q, CJ.out.grow (Nat.le_trans S3.out hsz) q h2, Nat.le_trans hsz q.size, fun D hD => (q.block D (Array.getElem?_eq_some_iff.1 (HD.out D hD)).1).trans (HD.out D hD)⟩ ⟨U.heap.size, hsz, gbx_set HZ.out, rfl⟩
  case body0 =>
    rintro l pre x a' U - - ⟨h1, h2, hsz, hd⟩ ⟨bx, hb, hbx, rfl⟩ hlen
    have yc : U.cell? ⟨W.heap.size, 0, none⟩ = some (.func (.yield l0) #[] #[]) := by rw [cell_of_row _ _ _ _ _ _ h1.yb]; rfl
    have RGX := Lib.hid (gbx_rng hbx)
    have hall : ([] ++ pre).length < T.all.length := by
      show ([] ++ pre).length < (T true ++ T false).length
      rw [List.nil_append, List.length_append]; omega
    obtain ⟨fn, tmps, assign, body, hyl, hR⟩ := HY.out ([] ++ pre) x U h2 hall
    have HR := Lib.hid hR
    have H1 := Lib.hid h1
    have HSZ := Lib.hid hsz
    have HD := Lib.hid hd
    clear hR h1 h2 hbx hd
    refine wpIn_block ?_
    gi_wp2_with ((with_reducible refine wlIn_load_orr bx 0 RGX.out ?_ ?_ ?_); rfl; rfl)
    refine ⟨fun _ => by omega, (round_in HR.out).mono ?_⟩
    rintro e U2 (⟨rfl, j2, k2, f2⟩ | ⟨rfl, j2, f2⟩)
    · have JJ := Lib.hid j2
      have K2 := Lib.hid k2
      have F2 := Lib.hid f2
      clear j2 k2 f2
      gi_wp2
      exact ⟨keeps_up S3.out F2.out, K2.out, H1.out.kept KH.out CH.out K2.out, by rw [← List.append_assoc]; exact JJ.out, Nat.le_trans HSZ.out (K2.out H1.out.wf).2.2.1.size, fun D hD => F2.out.same D _ (DD.out D hD).1 (HD.out D hD) rfl⟩
    · have JJ := Lib.hid j2
      have F2 := Lib.hid f2
      clear j2 f2
      gi_wp2
      exact ⟨keeps_up S3.out F2.out, rfl, by rw [← List.append_assoc]; exact JJ.out, fun D hD => F2.out.same D _ (DD.out D hD).1 (HD.out D hD) rfl⟩
  case stop0 =>
    rintro D c pre U hD hS ⟨rfl, hj, hd⟩ hM
    apply wpIn_ret
    have hdd : ∀ E, E ∈ [D] → W.heap.size ≤ E ∧ U.heap[E]? = some (.deferred (some [])) := fun E hE => by
      rw [List.mem_singleton.1 hE]; exact ⟨Nat.le_trans S3.out hD, hM⟩
    have hnd : [D].Nodup := List.nodup_cons.2 ⟨by simp, List.nodup_nil⟩
    show LeavesInM Fence.wide n Try.prog _ _ _ (marks [D]) .returning U
    refine leave_marksN [D] U hnd (fun E hE => (hdd E hE).2) (results_none rfl _ _ _) ⟨⟨_, rfl⟩, .inr ⟨[] ++ pre, ?_, unmark_calm CX.out _ U hnd hdd hj⟩⟩
    obtain ⟨r, hr⟩ := hS
    exact ⟨r ++ T false, by show valsO pre ++ (r ++ T false) = T true ++ T false; rw [← hr, List.append_assoc]⟩
  case done0 =>
    rintro D0 xs0 U0 hD hS ⟨h1, h2, hsz, hd⟩ hM
    have I4 := Lib.hid h1
    have J4 : Hid (J xs0 U0) := Lib.hid h2
    have S4 : Hid (W.heap.size ≤ U0.heap.size) := Lib.hid (Nat.le_trans S3.out hsz)
    have HXS := Lib.hid hS
    have D4 : Hid (∀ D, D ∈ [D0] → W.heap.size ≤ D ∧ U0.heap[D]? = some (.deferred (some []))) := Lib.hid fun D h => by
      rw [List.mem_singleton.1 h]; exact ⟨Nat.le_trans S3.out hD, hM⟩
    clear h1 h2 hsz hd hM hD hS I3 J3 S3 AP3 TL EN LT3 DD
    gi_wp2_with fail
    rw [roundsIn_succ]
    have kk : U0.cell? ⟨W1.heap.size, 1, none⟩ = some (.pointer (some ⟨g false, 0, none⟩)) := by rw [cell_of_row _ _ _ _ _ _ I4.out.ab]; rfl
    gi_wp2_with fail
    refine ⟨trivial, fun _ => by omega, (callsIn_wide.2 (KH.out.all (I4.out.bp.pd false))).mono ?_⟩; rintro e W13 ⟨gf, lb, T3, rfl, q3, en, hT, tell⟩
    have I3 := Lib.hid (I4.out.below KH.out ST.out q3)
    have J3 := Lib.hid (CJ.out.grow S4.out q3 J4.out)
    have S3 : Hid (W.heap.size ≤ W13.heap.size) := Lib.hid (Nat.le_trans S4.out q3.size)
    have DD : Hid (∀ D, D ∈ [D0] → W.heap.size ≤ D ∧ D < W13.heap.size ∧ W13.heap[D]? = some (.deferred (some []))) := Lib.hid fun D hD => by
      have dd := D4.out D hD
      have dl := (Array.getElem?_eq_some_iff.1 dd.2).1
      exact ⟨dd.1, Nat.lt_of_lt_of_le dl q3.size, (q3.block D dl).trans dd.2⟩
    have AP3 : Hid (∀ k, T3 k → ¬ S W13 k) := Lib.hid fun k hk c => by
      rcases (hT k hk).2 with d | d
      · exact I3.out.ap k (.inr (.inl (.inr ⟨_, d⟩))) c
      · have := I4.out.wf k (ST.out U0 W13 I4.out.sz (fun j hj => q3.block j (Nat.lt_of_lt_of_le hj I4.out.sz)) k c); omega
    have TL := Lib.hid tell
    have EN := Lib.hid en
    have LT3 : Hid (∀ k, (k = C ∨ BpF G F k ∨ k = W.heap.size ∨ k = W1.heap.size) → k < W13.heap.size) := Lib.hid (fun k hk => I3.out.lt KH.out hk)
    clear q3 en hT tell kk
    gi_wp2_with fail
    refine range_calm (S := S) (by omega) rfl EN.out (ST.out.up I3.out.sz) (TL.out W13 S (n - 1) (Fr.refl _ _) (ST.out.up I3.out.sz) I3.out.wf AP3.out (by omega)) (fun _ => rfl)
      (fun pre U => ItB Pd S N C W.heap.size W1.heap.size G g F T t l0 U ∧ J (xs0 ++ pre) U ∧ W13.heap.size ≤ U.heap.size ∧ ∀ D, D ∈ [D0] → U.heap[D]? = some (.deferred (some [])))
      (fun c pre U => c = .ret ∧ Jx (xs0 ++ pre) U ∧ ∀ D, D ∈ [D0] → U.heap[D]? = some (.deferred (some [])))
      (fun s A B hj b k => ⟨hj.1.upon KH.out ST.out LT3.out I3.out.sz b, CJ.out.up S3.out _ A B hj.2.1 b k, Nat.le_trans hj.2.2.1 b.size, fun D hD => (b.block D (DD.out D hD).2.1).trans (hj.2.2.2 D hD)⟩)
      (fun c s A B hj b k => ⟨hj.1, CX.out.up S3.out _ A B hj.2.1 b k, fun D hD => (b.block D (DD.out D hD).2.1).trans (hj.2.2 D hD)⟩)
      ⟨I3.out, by simpa using J3.out, Nat.le_refl _, fun D hD => (DD.out D hD).2.2⟩
      (fun x a' U => ∃ bx, W13.heap.size ≤ bx ∧ EO.Bx 31 U bx x.1 ∧ a' = { tmps := #[.func (.yield l0) #[] #[], .pointer (some ⟨C, 0, none⟩), .pointer (some ⟨W.heap.size, 0, none⟩), undef, .pointer (some ⟨g false, 0, none⟩), .pointer (some ⟨bx, 0, none⟩), .pointer (some ⟨G, 0, none⟩), .bool false, .pointer (some ⟨G, 0, none⟩), .pointer (some ⟨G, 0, none⟩), .pointer (some ⟨G, 0, none⟩), .pointer (some ⟨g true, 0, none⟩), .pointer (some ⟨G, 0, none⟩), .pointer (some ⟨G, 0, none⟩), .pointer (some ⟨G, 1, none⟩), .pointer (some ⟨g false, 0, none⟩), .slice (some ⟨W1.heap.size, 0, none⟩) 2 2, .int .i64 2, .int .i64 1, .bool true, .pointer (some ⟨W1.heap.size, 1, none⟩), .pointer (some ⟨g false, 0, none⟩), .pointer (some ⟨g false, 0, none⟩), .func (.func gf) #[] lb, .agg (EO.cells x.1).toArray, undef, undef, undef, undef, .int .i64 1], defers := [] })
      (fun x a' U l o o' hx hl ho hc => by
        obtain ⟨bx, h1, h2, h3⟩ := hx
        refine ⟨bx, h1, ?_, h3⟩
        show (U.putObj l o').heap[bx]? = _
        rw [World.putObj_heap_other (fun e => ?_)]
        · exact h2
        · subst e
          rw [show U.heap[bx]? = _ from h2] at ho
          cases ho
          cases hc) ?assign1 ?body1 ?done1 ?stop1
    case assign1 =>
      rintro l pre x U KK ⟨h1, h2, hsz, hd⟩ hK
      have HZ := Lib.hid (gbx_new (E := EO) (te := 31) U zeroOr)
      have hz := zero_or
      have HD := Lib.hid hd
      clear hd
      refine region_in rfl (fun ⟨_, _, h⟩ => h) ?_
      go_wp2_with (refine gwl_store TO x.1 U.heap.size HZ.out rfl rfl ?_)
      have q : Below U.heap.size U ((U.alloc (.cells (EO.cells zeroOr).toArray 31)).setRow U.heap.size (EO.cells x.1).toArray) := row_inO (Nat.le_refl _) (below_new U _)
      refine hK _ _ ⟨q.size, fun k o _ hk _ => (q.block k (Array.getElem?_eq_some_iff.1 hk).1).trans hk⟩ (Kc.below ST.out h1.sz q) ⟨h1.below KH.out ST.out q, CJ.out.grow (Nat.le_trans S3.out hsz) q h2, Nat.le_trans hsz q.size, fun D hD => (q.block D (Array.getElem?_eq_some_iff.1 (HD.out D hD)).1).trans (HD.out D hD)⟩ ⟨U.heap.size, hsz, gbx_set HZ.out, rfl⟩
    case body1 =>
      rintro l pre x a' U - - ⟨h1, h2, hsz, hd⟩ ⟨bx, hb, hbx, rfl⟩ hlen
      have yc : U.cell? ⟨W.heap.size, 0, none⟩ = some (.func (.yield l0) #[] #[]) := by rw [cell_of_row _ _ _ _ _ _ h1.yb]; rfl
      have RGX := Lib.hid (gbx_rng hbx)
      have hall : (xs0 ++ pre).length < T.all.length := by
        show (xs0 ++ pre).length < (T true ++ T false).length
        have := congrArg List.length HXS.out
        rw [valsO_len] at this
        rw [List.length_append, List.length_append]; omega
      obtain ⟨fn, tmps, assign, body, hyl, hR⟩ := HY.out (xs0 ++ pre) x U h2 hall
      have HR := Lib.hid hR
      have H1 := Lib.hid h1
      have HSZ := Lib.hid hsz
      have HD := Lib.hid hd
      clear hR h1 h2 hbx hd
      refine wpIn_block ?_
      gi_wp2_with ((with_reducible refine wlIn_load_orr bx 0 RGX.out ?_ ?_ ?_); rfl; rfl)
      refine ⟨fun _ => by omega, (round_in HR.out).mono ?_⟩
      rintro e U2 (⟨rfl, j2, k2, f2⟩ | ⟨rfl, j2, f2⟩)
      · have JJ := Lib.hid j2
        have K2 := Lib.hid k2
        have F2 := Lib.hid f2
        clear j2 k2 f2
        gi_wp2
        exact ⟨keeps_up S3.out F2.out, K2.out, H1.out.kept KH.out CH.out K2.out, by rw [← List.append_assoc]; exact JJ.out, Nat.le_trans HSZ.out (K2.out H1.out.wf).2.2.1.size, fun D hD => F2.out.same D _ (DD.out D hD).1 (HD.out D hD) rfl⟩
      · have JJ := Lib.hid j2
        have F2 := Lib.hid f2
        clear j2 f2
        gi_wp2
        exact ⟨keeps_up S3.out F2.out, rfl, by rw [← List.append_assoc]; exact JJ.out, fun D hD => F2.out.same D _ (DD.out D hD).1 (HD.out D hD) rfl⟩
    case stop1 =>
      rintro D c pre U hD hS ⟨rfl, hj, hd⟩ hM
      apply wpIn_ret
      have d0 := DD.out D0 (List.mem_singleton.2 rfl)
      have hdd : ∀ E, E ∈ [D, D0] → W.heap.size ≤ E ∧ U.heap[E]? = some (.deferred (some [])) := fun E hE => by
        rcases List.mem_cons.1 hE with rfl | hE
        · exact ⟨Nat.le_trans S3.out hD, hM⟩
        · rw [List.mem_singleton.1 hE]; exact ⟨d0.1, hd D0 (List.mem_singleton.2 rfl)⟩
      have hnd : [D, D0].Nodup := by simp; omega
      show LeavesInM Fence.wide n Try.prog _ _ _ (marks [D, D0]) .returning U
      refine leave_marksN [D, D0] U hnd (fun E hE => (hdd E hE).2) (results_none rfl _ _ _) ⟨⟨_, rfl⟩, .inr ⟨xs0 ++ pre, ?_, unmark_calm CX.out _ U hnd hdd hj⟩⟩
      obtain ⟨r, hr⟩ := hS
      exact ⟨r, by show valsO (xs0 ++ pre) ++ r = T true ++ T false; rw [show valsO (xs0 ++ pre) = valsO xs0 ++ valsO pre by simp [valsO], HXS.out, ← hr, List.append_assoc]⟩
    case done1 =>
      rintro D xs1 U1 hD hS ⟨h1, h2, hsz, hd⟩ hM
      have I4 := Lib.hid h1
      have J4 : Hid (J (xs0 ++ xs1) U1) := Lib.hid h2
      have HXS1 := Lib.hid hS
      have d0 := DD.out D0 (List.mem_singleton.2 rfl)
      have HDD : Hid (∀ E, E ∈ [D, D0] → W.heap.size ≤ E ∧ U1.heap[E]? = some (.deferred (some []))) := Lib.hid fun E hE => by
        rcases List.mem_cons.1 hE with rfl | hE
        · exact ⟨Nat.le_trans S3.out hD, hM⟩
        · rw [List.mem_singleton.1 hE]; exact ⟨d0.1, hd D0 (List.mem_singleton.2 rfl)⟩
      have HND : Hid ([D, D0].Nodup) := Lib.hid (by simp; omega)
      clear h1 h2 hsz hd hM hD hS I3 J3 S3 AP3 TL EN LT3 DD d0
      gi_wp2_with fail
      rw [roundsIn_succ]
      gi_wp2_with fail
      show LeavesInM Fence.wide n Try.prog _ _ _ (marks [D, D0]) .returning U1
      refine leave_marksN [D, D0] U1 HND.out (fun E hE => (HDD.out E hE).2) (results_none rfl _ _ _) ⟨⟨_, rfl⟩, .inl ⟨xs0 ++ xs1, ?_, unmark_calm CJ.out _ U1 HND.out HDD.out J4.out⟩⟩
      show valsO (xs0 ++ xs1) = T true ++ T false
      rw [show valsO (xs0 ++ xs1) = valsO xs0 ++ valsO xs1 by simp [valsO], HXS.out, HXS1.out]
end
end Go.Proofs.Ytdcjgcjnfcahkaa
/- The program's book: All, New, Copy; a book that is not there. -/
namespace Go.Proofs.Ytdcjgcjnfcahkaa
open Go.RowKit Go.Shelf
set_option linter.unusedVariables false
set_option linter.unusedSimpArgs false

theorem ret_marksN {P : Program} {n : Nat} {fn : Func} {a : Act} {w : World} {R : Ending → World → Prop} {v : Value} (Ds : List Nat) (hd : a.defers = marks Ds) (hn : Ds.Nodup) (hD : ∀ D, D ∈ Ds → w.heap[D]? = some (.deferred (some [])))
    (h : (results fn a.tmps).run P (unmark Ds w) = .ok v (unmark Ds w)) (hR : R (.returned v) (unmark Ds w)) : retOnly (bodyPostM Fence.wide n P fn R) .ret a w := by
  show LeavesInM Fence.wide n P fn a.tmps R a.defers .returning w
  rw [hd]
  exact leave_marksN Ds w hn hD h hR
/-- A value that All answers, ranged over, tells the orders. -/
def TellsB (W : World) (T : Nat → Prop) (gf : Nat) (lb : Array Value) (os : List Or) : Prop :=
  ∀ (W2 : World) (S : World → Nat → Prop) (n : Nat), Fr (fun k => ¬ T k) W W2 → Still S W2.heap.size → (∀ k, S W2 k → k < W2.heap.size) → (∀ k, T k → ¬ S W2 k) → 5 ≤ n →
    SeqD Fence.wide n Try.prog gf lb (fun x : OkOr => #[.agg (EO.cells x.1).toArray]) S (fun ys => valsO ys = os) (fun pre => valsO pre <+: os) os.length W2
def AllB (w : World) (F : Nat → Prop) (os : List Or) (e : Ending) (w' : World) : Prop :=
  ∃ gf lb T, e = .returned (.func (.func gf) #[] lb) ∧ Below w.heap.size w w' ∧ Enters Try.prog gf ∧ (∀ k, T k → k < w'.heap.size ∧ (F k ∨ w.heap.size ≤ k)) ∧ TellsB w' T gf lb os
/-- A book that is not there, or a zero one. -/
abbrev zbk : Array Value := #[.pointer none, .pointer none]
def Nb (w : World) (p : Option Addr) : Prop := p = none ∨ ∃ g, p = some ⟨g, 0, none⟩ ∧ w.heap[g]? = some (.cells zbk 44 (0, 0))
theorem zero_bk (w : World) : (zeroValue 44).run Try.prog w = .ok (.agg zbk) w := by kernel_rfl
section
variable {Pd : PdT} {zs : Array Value} {w W : World} {p : Option Addr} {G : Nat} {g : Bool → Nat} {F : Bool → Nat → Prop} {T : Sd} {t : Nat}
theorem Nb.below (h : Nb w p) (q : Below w.heap.size w W) : Nb W p := h.imp id fun ⟨g, e, hg⟩ => ⟨g, e, (q.block g (Array.getElem?_eq_some_iff.1 hg).1).trans hg⟩
theorem pmiss_nb (h : Nb w p) : Calls Try.prog 29 #[.pointer p] w fun e w' => e = .returned (.bool true) ∧ w = w' := by
  rcases h with rfl | ⟨g, rfl, hg⟩
  · exact pmiss_nil w
  · exact pmiss_zero (by rw [cell_of_row _ _ _ _ _ _ hg]; rfl)
set_option maxRecDepth 100000 in
theorem pall_calls (p : Option Addr) (w : World) : Calls Try.prog 31 #[.pointer p] w fun e w' => e = .returned (.func (.func 50) #[] #[.pointer (some ⟨w.heap.size, 0, none⟩)]) ∧ w' = w.alloc (.cells #[.pointer p] 23) := by
  go_enter Try.func31, Try.ntmps31
  go_wp2_with fail
  go_ret
  exact ⟨rfl, rfl⟩
theorem penters_all : Enters Try.prog 50 := enters_of Try.func50 (by kernel_rfl) rfl
theorem pball_any (K : SideK Pd zs) (CK : CellK Pd) (h : Bp Pd w G g F T t) : Calls Try.prog 31 #[.pointer (some ⟨G, 0, none⟩)] w (AllB w (BpF G F) T.all) := by
  refine (pall_calls _ w).mono ?_
  rintro e w' ⟨rfl, rfl⟩
  have b := below_new w (.cells #[.pointer (some ⟨G, 0, none⟩)] 23)
  refine ⟨_, _, fun k => k = w.heap.size ∨ BpF G F k, rfl, b, penters_all, fun k hk => ?_, ?_⟩
  · rcases hk with rfl | hk
    · exact ⟨by simp, .inr (Nat.le_refl _)⟩
    · exact ⟨Nat.lt_of_lt_of_le (h.lt K hk) b.size, .inl hk⟩
  · intro W2 S n fr st wf ap hn l0 J Jx W hW cJ cX hY h0
    have cb := heap_alloc_new w (.cells #[.pointer (some ⟨G, 0, none⟩)] 23)
    have d2 : Bp Pd W2 G g F T t := (h.below K b).keep K fr (fun k hk c => c (.inr hk))
    have c2 : W2.heap[w.heap.size]? = some (.cells #[.pointer (some ⟨G, 0, none⟩)] 23 (0, 0)) := (fr.at' _ (by simp) (fun c => c (.inl rfl))).trans cb
    have s := st W2 W (Nat.le_refl _) (fun k hk => hW.block k hk)
    exact pall1_in n l0 hn K CK st J Jx W hW.size cJ cX hY (d2.below K hW) ((hW.block _ (Array.getElem?_eq_some_iff.1 c2).1).trans c2) (fun k hk => Nat.lt_of_lt_of_le (wf k (s k hk)) hW.size)
      (fun k hk c => ap k hk (s k c)) h0
set_option maxRecDepth 100000 in
set_option maxHeartbeats 2000000 in
theorem pnall1_in (n l0 C : Nat) (p : Option Addr) (J Jx : List OkOr → World → Prop) {S : World → Nat → Prop} (W : World) (cJ : Calm W.heap.size S J) (hC : W.heap[C]? = some (.cells #[.pointer p] 23 (0, 0))) (hN : Nb W p) (h0 : J [] W) :
    CallsIn Fence.wide n Try.prog 50 #[.func (.yield l0) #[] #[], .pointer (some ⟨C, 0, none⟩)] W fun e W' => (∃ v, e = .returned v) ∧
      ((∃ xs, valsO xs = [] ∧ J xs W') ∨ (∃ pre, valsO pre <+: [] ∧ Jx pre W')) := by
  obtain ⟨W1, hW1⟩ : ∃ W1, W.alloc (.cells #[.func (.yield l0) #[] #[]] 81) = W1 := ⟨_, rfl⟩
  have b1 : Below W.heap.size W W1 := hW1 ▸ below_new W _
  have HW1 := Lib.hid hW1
  have J1 := Lib.hid (cJ.grow (Nat.le_refl _) b1 h0)
  have MS := Lib.hid (pmiss_nb (hN.below b1))
  have cc1 : W1.cell? ⟨C, 0, none⟩ = some (.pointer p) := by rw [cell_of_row _ _ _ _ _ _ ((b1.block C (Array.getElem?_eq_some_iff.1 hC).1).trans hC)]; rfl
  clear hW1 b1 hN hC h0 cJ
  refine callsIn_of_wp_marks Try.func50 rfl trivial ?_ rfl
  simp only [Try.ntmps50, List.size_toArray, List.length_cons, List.length_nil, Nat.reduceAdd, Nat.reduceSub, Array.replicate_succ, Array.replicate_zero, List.push_toArray, List.append_toArray, List.nil_append, List.cons_append]
  refine wpIn_mono (Q := retOnly (bodyPostM Fence.wide n Try.prog _ _)) ?_ (fun e a w q => by cases e <;> first | exact q | exact q.elim)
  apply wpIn_seq_k; intro K1 h1
  refine wpIn_wide.2 ?_
  go_wp2_with fail
  rw [HW1.out]
  apply wpIn_seq_k; intro K2 h2
  refine wpIn_wide.2 ?_
  go_wp2_with fail
  refine MS.out.mono ?_; rintro e w0 ⟨rfl, rfl⟩
  go_wp2_with fail
  exact ret_marksN [] rfl List.nodup_nil (fun E hE => by cases hE) (results_none rfl _ _ _) ⟨⟨_, rfl⟩, .inl ⟨[], rfl, J1.out⟩⟩
theorem pnball_any (h : Nb w p) : Calls Try.prog 31 #[.pointer p] w (AllB w (fun k => p = some ⟨k, 0, none⟩) []) := by
  refine (pall_calls _ w).mono ?_
  rintro e w' ⟨rfl, rfl⟩
  have b := below_new w (.cells #[.pointer p] 23)
  refine ⟨_, _, fun k => k = w.heap.size ∨ p = some ⟨k, 0, none⟩, rfl, b, penters_all, fun k hk => ?_, ?_⟩
  · rcases hk with rfl | hk
    · exact ⟨by simp, .inr (Nat.le_refl _)⟩
    · refine ⟨Nat.lt_of_lt_of_le ?_ b.size, .inl hk⟩
      rcases h with e | ⟨g, e, hg⟩
      · rw [e] at hk; cases hk
      · rw [e] at hk; cases hk; exact (Array.getElem?_eq_some_iff.1 hg).1
  · intro W2 S n fr st wf ap hn l0 J Jx W hW cJ _ hY h0
    have cb := heap_alloc_new w (.cells #[.pointer p] 23)
    have c2 : W2.heap[w.heap.size]? = some (.cells #[.pointer p] 23 (0, 0)) := (fr.at' _ (by simp) (fun c => c (.inl rfl))).trans cb
    have n2 : Nb W2 p := by
      rcases h.below b with e | ⟨g, e, hg⟩
      · exact .inl e
      · exact .inr ⟨g, e, (fr.at' g (Array.getElem?_eq_some_iff.1 hg).1 (fun c => c (.inr e))).trans hg⟩
    exact pnall1_in n l0 w.heap.size p J Jx W cJ ((hW.block _ (Array.getElem?_eq_some_iff.1 c2).1).trans c2) (n2.below hW) h0
set_option maxRecDepth 100000 in
theorem pbnew_any (K : SideK Pd zs) (w : World) : Calls Try.prog 10 #[] w fun e w' => ∃ G g F, e = .returned (.pointer (some ⟨G, 0, none⟩)) ∧ Bp Pd w' G g F (fun _ => []) 0 ∧ Below w.heap.size w w' ∧ ∀ k, BpF G F k → w.heap.size ≤ k := by
  have N1 := Lib.hid (K.new w true)
  have N2 := Lib.hid fun W => K.new W false
  have KH := Lib.hid K
  clear K
  go_enter Try.func10, Try.ntmps10
  go_wp2_with fail
  refine N1.out.mono ?_; rintro e w1 ⟨g1, F1, rfl, p1, q1, f1⟩
  have P1 := Lib.hid p1
  have Q1 := Lib.hid q1
  have H1 := Lib.hid f1
  clear p1 q1 f1
  go_wp2_with fail
  refine (N2.out w1).mono ?_; rintro e w2 ⟨g2, F2, rfl, p2, q2, f2⟩
  have P2 := Lib.hid p2
  have Q2 := Lib.hid q2
  have H2 := Lib.hid f2
  clear p2 q2 f2
  go_wp2_with fail
  go_ret
  have s1 := Q1.out.size
  have s2 := Q2.out.size
  have q3 := below_new w2 (.cells #[.pointer (some ⟨g1, 0, none⟩), .pointer (some ⟨g2, 0, none⟩)] 44)
  have l1 := KH.out.lt P1.out
  have l2 := KH.out.lt P2.out
  refine ⟨w2.heap.size, (fun b => if b then g1 else g2), (fun b => if b then F1 else F2), rfl, ⟨heap_alloc_new w2 _, fun b => ?_, fun b k hk => ?_, fun b => ?_⟩, (Q1.out.trans (Q2.out.mono s1)).trans (q3.mono (by omega)), fun k hk => ?_⟩
  · cases b
    · exact KH.out.keep (S := fun _ => False) P2.out (Fr.below q3) (fun _ _ h => h)
    · exact KH.out.keep (S := fun _ => False) P1.out (Fr.below (S := fun _ => False) Q2.out |>.same (Fr.below q3)) (fun _ _ h => h)
  · cases b
    · intro c
      have := H2.out k hk; have := l1 k c; omega
    · intro c
      have := H2.out k c; have := l1 k hk; omega
  · cases b
    · intro c; have := l2 _ c; omega
    · intro c; have := l1 _ c; omega
  · rcases hk with rfl | ⟨b, hk⟩
    · omega
    · cases b
      · have := H2.out k hk; omega
      · exact H1.out k hk
set_option maxRecDepth 100000 in
theorem pncopy_any (h : Nb w p) : Calls Try.prog 13 #[.pointer p] w fun e w' => e = .returned (.pointer none) ∧ Below w.heap.size w w' := by
  have M := pmiss_nb h
  have BB := Lib.hid (Below.refl w.heap.size w)
  clear h
  go_enter Try.func13, Try.ntmps13
  go_wp2_with fail
  refine M.mono ?_; rintro e w2 ⟨rfl, rfl⟩
  go_wp2_with fail
  go_ret
  exact ⟨rfl, BB.out⟩
set_option maxRecDepth 100000 in
set_option maxHeartbeats 2000000 in
theorem pncan_any {n : Int} (h : Nb w p) (which : Bool) : Calls Try.prog 22 #[.pointer p, .int .u64 n] w fun e w' => e = .returned (.tuple #[.agg (EO.cells zeroOr).toArray, .int .i64 1]) ∧ Below w.heap.size w w' := by
  have hz := zero_or
  obtain ⟨W1, hW1, b1, x1, s1⟩ := res_new w
  have M := Lib.hid (pmiss_nb (h.below b1))
  have HW := Lib.hid hW1
  have X1 := Lib.hid x1
  have B1 := Lib.hid b1
  clear h hW1 x1 b1 s1
  go_enter Try.func22, Try.ntmps22
  go_wp2_with fail
  rw [HW.out]
  refine M.out.mono ?_; rintro e w2 ⟨rfl, rfl⟩
  go_wp2_with (first | (refine gwl_build0 built_or ?_) | (refine gwl_store TO zeroOr w.heap.size X1.out rfl rfl ?_))
  exact bodyPost_ret (gret TO rfl _ _ w.heap.size rfl rfl (gbx_set X1.out)) rfl ⟨rfl, row_inO (Nat.le_refl _) B1.out⟩
theorem pnget_any {n : Int} (h : Nb w p) : Calls Try.prog 22 #[.pointer p, .int .u64 n] w fun e w' => e = .returned (.tuple #[.agg (EO.cells zeroOr).toArray, .int .i64 1]) ∧ Below w.heap.size w w' := pncan_any h true
set_option maxRecDepth 100000 in
set_option maxHeartbeats 2000000 in
theorem pncanc_any {n : Int} (h : Nb w p) : Calls Try.prog 21 #[.pointer p, .int .u64 n] w fun e w' => e = .returned (.tuple #[.agg (EO.cells zeroOr).toArray, .int .i64 1]) ∧ Below w.heap.size w w' := by
  have hz := zero_or
  obtain ⟨W1, hW1, b1, x1, s1⟩ := res_new w
  have PA := Lib.hid (pnget_any (n := n) (h.below b1))
  have HW := Lib.hid hW1
  have X1 := Lib.hid x1
  have B1 := Lib.hid b1
  clear h hW1 x1 b1 s1
  go_enter Try.func21, Try.ntmps21
  go_wp2_with fail
  rw [HW.out]
  refine PA.out.mono ?_; rintro e w2 ⟨rfl, q2⟩
  obtain ⟨V, hV, bV, yV, zV, sV⟩ := put_or zeroOr q2
  have HV := Lib.hid hV
  have ZV := Lib.hid zV
  have XV := Lib.hid (gbx_below X1.out bV)
  have BV := Lib.hid (B1.out.trans (bV.mono B1.out.size))
  clear q2 hV bV yV zV sV
  go_wp2_with (first | (refine gwl_store TO zeroOr w2.heap.size ZV.out rfl rfl ?_; rw [HV.out]) | (refine gwl_build0 built_or ?_) | (refine gwl_store TO zeroOr w.heap.size XV.out rfl rfl ?_))
  exact bodyPost_ret (gret TO rfl _ _ w.heap.size rfl rfl (gbx_set XV.out)) rfl ⟨rfl, row_inO (Nat.le_refl _) BV.out⟩
set_option maxRecDepth 100000 in
set_option maxHeartbeats 2000000 in
theorem pnplace_any {o : Or} {k : Int} (h : Nb w p) : Calls Try.prog 19 #[.pointer p, .agg (EO.cells o).toArray, .int .u8 k] w fun e w' => e = .returned (.tuple #[.agg (EPx.cells zeroPx).toArray, .int .i64 1]) ∧ Below w.heap.size w w' := by
  have hp := zero_px
  obtain ⟨W1, hW1⟩ : ∃ W1, (w.alloc (.cells (EO.cells o).toArray 31)).alloc (.cells (EPx.cells zeroPx).toArray 49) = W1 := ⟨_, rfl⟩
  have b0 := below_new w (.cells (EO.cells o).toArray 31)
  have b1 : Below w.heap.size w W1 := by rw [← hW1]; exact b0.trans ((below_new _ _).mono b0.size)
  have x1 : EPx.Bx 49 W1 (w.heap.size + 1) zeroPx := by
    have e := gbx_new (E := EPx) (te := 49) (w.alloc (.cells (EO.cells o).toArray 31)) zeroPx
    rw [hW1, show (w.alloc (.cells (EO.cells o).toArray 31)).heap.size = w.heap.size + 1 by simp] at e
    exact e
  have M := Lib.hid (pmiss_nb (h.below b1))
  have HW := Lib.hid hW1
  have X1 := Lib.hid x1
  have B1 := Lib.hid b1
  clear h hW1 x1 b1 b0
  go_enter Try.func19, Try.ntmps19
  go_wp2_with fail
  rw [HW.out]
  refine M.out.mono ?_; rintro e w2 ⟨rfl, rfl⟩
  go_wp2_with (first | (refine wl_build0_px ?_) | (refine wl_store_px zeroPx (w.heap.size + 1) X1.out rfl rfl ?_))
  exact bodyPost_ret (ret_px2 rfl _ _ (w.heap.size + 1) rfl rfl (gbx_set X1.out)) rfl ⟨rfl, below_row0 B1.out (by omega)⟩
set_option maxRecDepth 100000 in
set_option maxHeartbeats 2000000 in
theorem pnrepl_any {n pr l : Int} (h : Nb w p) : Calls Try.prog 20 #[.pointer p, .int .u64 n, .int .i64 pr, .int .i64 l] w fun e w' => e = .returned (.tuple #[.agg (EPx.cells zeroPx).toArray, .int .i64 1]) ∧ Below w.heap.size w w' := by
  have hp := zero_px
  have hz := zero_or
  obtain ⟨W1, hW1, b1, x1, s1⟩ := px_new w
  have PA := Lib.hid (pnget_any (n := n) (h.below b1))
  have HW := Lib.hid hW1
  have X1 := Lib.hid x1
  have B1 := Lib.hid b1
  clear h hW1 x1 b1 s1
  go_enter Try.func20, Try.ntmps20
  go_wp2_with fail
  rw [HW.out]
  refine PA.out.mono ?_; rintro e w2 ⟨rfl, q2⟩
  obtain ⟨V, hV, bV, yV, zV, sV⟩ := put_or zeroOr q2
  have HV := Lib.hid hV
  have ZV := Lib.hid zV
  have XV := Lib.hid (gbx_below X1.out bV)
  have BV := Lib.hid (B1.out.trans (bV.mono B1.out.size))
  clear q2 hV bV yV zV sV
  go_wp2_with (first | (refine gwl_store TO zeroOr w2.heap.size ZV.out rfl rfl ?_; rw [HV.out]) | (refine wl_build0_px ?_) | (refine wl_store_px zeroPx w.heap.size XV.out rfl rfl ?_))
  exact bodyPost_ret (ret_px2 rfl _ _ w.heap.size rfl rfl (gbx_set XV.out)) rfl ⟨rfl, below_row0 BV.out (Nat.le_refl _)⟩
end
section
variable {Pd : PdT} {zs : Array Value} {w : World} {G : Nat} {g : Bool → Nat} {F : Bool → Nat → Prop} {T : Sd} {t : Nat}
set_option maxRecDepth 100000 in
set_option maxHeartbeats 2000000 in
theorem pcopy_any (K : SideK Pd zs) (h : Bp Pd w G g F T t) : Calls Try.prog 13 #[.pointer (some ⟨G, 0, none⟩)] w fun e w' => ∃ G2 g2 F2, e = .returned (.pointer (some ⟨G2, 0, none⟩)) ∧ Bp Pd w' G2 g2 F2 T t ∧ Below w.heap.size w w' ∧ ∀ k, BpF G2 F2 k → w.heap.size ≤ k := by
  have MS := Lib.hid (pmiss_no h.c0)
  have KH := Lib.hid K
  have HB := Lib.hid fun (U : World) (q : Below w.heap.size w U) => h.below K q
  clear K h
  go_enter Try.func13, Try.ntmps13
  go_wp2_with fail
  refine MS.out.mono ?_; rintro e w2 ⟨rfl, rfl⟩
  go_wp2_with fail
  refine wp_region_held_drew (S := fun U => Below w.heap.size w U) (by kernel_rfl) (Below.refl _ _).drew (fun hH => ?_)
  refine wpAnyH_take (i := 0) (v := .pointer (some ⟨G, 0, none⟩)) rfl (by kernel_rfl) (by kernel_rfl) (by kernel_rfl) (fun _ _ _ h => h) (.inl ⟨by rfl, ?_⟩) (by assumption) ?_
  · intro W hW; go_simp
  try simp only [List.getElem_toArray, List.getElem_cons_zero, Act.put, List.setIfInBounds_toArray, List.set_cons_zero, List.set_cons_succ]
  refine wpAnyH_take (i := 1) (v := .pointer (some ⟨G, 0, none⟩)) rfl (by kernel_rfl) (by kernel_rfl) (by kernel_rfl) (fun _ _ _ h => h) (.inl ⟨by rfl, ?_⟩) (by assumption) ?_
  · intro W hW; go_simp
  try simp only [List.getElem_toArray, List.getElem_cons_zero, List.getElem_cons_succ, Act.put, List.setIfInBounds_toArray, List.set_cons_zero, List.set_cons_succ]
  refine wpAnyH_take (i := 2) (v := .pointer (some ⟨G, 0, none⟩)) rfl (by kernel_rfl) (by kernel_rfl) (by kernel_rfl) (fun _ _ _ h => h) (.inl ⟨by rfl, ?_⟩) (by assumption) ?_
  · intro W hW; go_simp
  try simp only [List.getElem_toArray, List.getElem_cons_zero, List.getElem_cons_succ, Act.put, List.setIfInBounds_toArray, List.set_cons_zero, List.set_cons_succ]
  refine wpAnyH_take (i := 3) (v := .pointer (some ⟨g true, 0, none⟩)) rfl (by kernel_rfl) (by kernel_rfl) (by kernel_rfl) (fun _ _ _ h => h) (.inl ⟨by rfl, ?_⟩) (by assumption) ?_
  · intro W hW; have k := (HB.out W hW).c0; go_simp
  try simp only [List.getElem_toArray, List.getElem_cons_zero, List.getElem_cons_succ, Act.put, List.setIfInBounds_toArray, List.set_cons_zero, List.set_cons_succ]
  refine wpAnyH_take (i := 5) (v := .pointer (some ⟨G, 0, none⟩)) rfl (by kernel_rfl) (by kernel_rfl) (by kernel_rfl) (fun _ _ _ h => h) (.inl ⟨by rfl, ?_⟩) (by assumption) ?_
  · intro W hW; go_simp
  try simp only [List.getElem_toArray, List.getElem_cons_zero, List.getElem_cons_succ, Act.put, List.setIfInBounds_toArray, List.set_cons_zero, List.set_cons_succ]
  refine wpAnyH_take (i := 6) (v := .pointer (some ⟨G, 0, none⟩)) rfl (by kernel_rfl) (by kernel_rfl) (by kernel_rfl) (fun _ _ _ h => h) (.inl ⟨by rfl, ?_⟩) (by assumption) ?_
  · intro W hW; go_simp
  try simp only [List.getElem_toArray, List.getElem_cons_zero, List.getElem_cons_succ, Act.put, List.setIfInBounds_toArray, List.set_cons_zero, List.set_cons_succ]
  refine wpAnyH_take (i := 7) (v := .pointer (some ⟨G, 1, none⟩)) rfl (by kernel_rfl) (by kernel_rfl) (by kernel_rfl) (fun _ _ _ h => h) (.inl ⟨by rfl, ?_⟩) (by assumption) ?_
  · intro W hW; go_simp
  try simp only [List.getElem_toArray, List.getElem_cons_zero, List.getElem_cons_succ, Act.put, List.setIfInBounds_toArray, List.set_cons_zero, List.set_cons_succ]
  refine wpAnyH_take (i := 8) (v := .pointer (some ⟨g false, 0, none⟩)) rfl (by kernel_rfl) (by kernel_rfl) (by kernel_rfl) (fun _ _ _ h => h) (.inl ⟨by rfl, ?_⟩) (by assumption) ?_
  · intro W hW; have k := (HB.out W hW).c1; go_simp
  try simp only [List.getElem_toArray, List.getElem_cons_zero, List.getElem_cons_succ, Act.put, List.setIfInBounds_toArray, List.set_cons_zero, List.set_cons_succ]
  refine wpAnyH_ready (rs := [4]) (by decide +kernel) (by simp) (AllReadyH.cons rfl (fun KQ hK => ?_) AllReadyH.nil)
  go_simp
  refine (KH.out.copy ((HB.out _ hH).pd true)).mono ?_; rintro e0 U1 ⟨g1, F1, rfl, p1, q1, f1⟩
  have hH1 := hH.trans (q1.mono hH.size)
  have s1 := hH.size
  refine hK.out _ _ hH1 (fun _ => ?_)
  clear hK
  try simp only [List.setIfInBounds_toArray, List.set_cons_zero, List.set_cons_succ]
  refine wpAnyH_ready (rs := [9]) (by decide +kernel) (by simp) (AllReadyH.cons rfl (fun KQ hK => ?_) AllReadyH.nil)
  go_simp
  refine (KH.out.copy ((HB.out _ hH1).pd false)).mono ?_; rintro e0 U2 ⟨g2, F2, rfl, p2, q2, f2⟩
  have hH2 := hH1.trans (q2.mono hH1.size)
  have s2 := hH1.size
  have s3 := hH2.size
  have s4 := q2.size
  refine hK.out _ _ hH2 (fun _ => ?_)
  clear hK
  try simp only [List.setIfInBounds_toArray, List.set_cons_zero, List.set_cons_succ]
  refine wpAnyH_take (i := 10) (v := .agg #[.pointer (some ⟨g1, 0, none⟩), .pointer (some ⟨g2, 0, none⟩)]) rfl (by kernel_rfl) (by kernel_rfl) (by kernel_rfl) (fun _ _ _ h => h) (.inl ⟨by rfl, ?_⟩) (by assumption) ?_
  · intro W hW; go_simp
  try simp only [List.getElem_toArray, List.getElem_cons_zero, List.getElem_cons_succ, Act.put, List.setIfInBounds_toArray, List.set_cons_zero, List.set_cons_succ]
  refine wpAnyH_ready (rs := [11]) (by decide +kernel) (by simp) (AllReadyH.cons rfl (fun KQ hK => ?_) AllReadyH.nil)
  go_simp
  have q3 := below_new U2 (.cells #[.pointer (some ⟨g1, 0, none⟩), .pointer (some ⟨g2, 0, none⟩)] 44)
  have hH3 := hH2.trans (q3.mono hH2.size)
  refine hK.out _ _ hH3 (fun _ => ?_)
  clear hK
  try simp only [List.setIfInBounds_toArray, List.set_cons_zero, List.set_cons_succ]
  refine wpAnyH_take (i := 12) (v := .pointer (some ⟨U2.heap.size, 0, none⟩)) rfl (by kernel_rfl) (by kernel_rfl) (by kernel_rfl) (fun _ _ _ h => h) (.inl ⟨by rfl, ?_⟩) (by assumption) ?_
  · intro W hW; go_simp
  try simp only [List.getElem_toArray, List.getElem_cons_zero, List.getElem_cons_succ, Act.put, List.setIfInBounds_toArray, List.set_cons_zero, List.set_cons_succ]
  refine wpAnyH_done (by decide +kernel) ?_ _
  have P1 := Lib.hid p1
  have P2 := Lib.hid p2
  have Q2 := Lib.hid q2
  have Q3 := Lib.hid q3
  have H1 := Lib.hid f1
  have H2 := Lib.hid f2
  have B3 := Lib.hid hH3
  clear p1 p2 q1 q2 q3 f1 f2 hH hH1 hH2 hH3
  go_wp2_with fail
  go_ret
  have l1 := KH.out.lt P1.out
  have l2 := KH.out.lt P2.out
  refine ⟨U2.heap.size, (fun b => if b then g1 else g2), (fun b => if b then F1 else F2), rfl, ⟨heap_alloc_new U2 _, fun b => ?_, fun b k hk => ?_, fun b => ?_⟩, B3.out, fun k hk => ?_⟩
  · cases b
    · exact KH.out.keep (S := fun _ => False) P2.out (Fr.below Q3.out) (fun _ _ h => h)
    · exact KH.out.keep (S := fun _ => False) P1.out (Fr.below (S := fun _ => False) Q2.out |>.same (Fr.below Q3.out)) (fun _ _ h => h)
  · cases b
    · intro c; have := H2.out k hk; have := l1 k c; omega
    · intro c; have := H2.out k c; have := l1 k hk; omega
  · cases b
    · intro c; have := l2 _ c; omega
    · intro c; have := l1 _ c; omega
  · rcases hk with rfl | ⟨b, hk⟩
    · omega
    · cases b
      · have := H2.out k hk; omega
      · have := H1.out k hk; omega
end
end Go.Proofs.Ytdcjgcjnfcahkaa
/- Contracts of the document's plain book: Get, Cancel. -/
namespace Go.Proofs.Ytdcjgcjnfcahkaa
open Go.RowKit
set_option linter.unusedVariables false

theorem take_cases (S : Sd) (n : Int) : (findB S n = none ∧ takeX S n = zeroOr ∧ takeA S n = 7) ∨ ∃ o, findB S n = some o ∧ takeX S n = o ∧ takeA S n = 0 := by
  unfold takeX takeA
  cases c : findB S n with
  | none => exact .inl ⟨rfl, rfl, rfl⟩
  | some o => exact .inr ⟨o, rfl, rfl, rfl⟩
/-- It stands on its own side. -/
theorem find_side {S : Sd} {n : Int} {o : Or} (hb : ∀ b x, x ∈ S b → x.bu = b) (h : findB S n = some o) : findO (S o.bu) n = some o := by
  unfold findB at h
  cases c : findO (S true) n with
  | some x =>
    rw [c] at h
    have e : x = o := by simpa using h
    subst e
    rw [hb true x (find_mem c).1]; exact c
  | none =>
    rw [c] at h
    have e : findO (S false) n = some o := by simpa using h
    rw [hb false o (find_mem e).1]; exact e
theorem Bk.bu {W : World} {B G : Nat} {g : Bool → Nat} {v : Bool → Value} {S : Sd} (h : Bk W B G g v S) : ∀ b x, x ∈ S b → x.bu = b := fun b x hx => ((h.ps b).facts.2 x hx).2.2
section
variable {w X w5 : World} {B G : Nat} {g : Bool → Nat} {v : Bool → Value} {S T : Sd} {b : Bool} {os : List Or} {cs : Array Value}
theorem Bk.gslt (h : Bk w B G g v S) (b : Bool) : g b < w.heap.size := (Array.getElem?_eq_some_iff.1 (h.ps b).side).1
theorem Bk.vlt (h : Bk w B G g v S) {b : Bool} {k : Nat} (hk : (v b).ownBlock = some k) : k < w.heap.size := by
  obtain ⟨cur, e⟩ := ((h.ps b).row hk).2
  exact (Array.getElem?_eq_some_iff.1 e).1
/-- The cell of a call's result stays behind a call on a side. -/
theorem res_stays {x : Or} {u : Value} (h : Bk w B G g v S) (x1 : EO.Bx 31 X w.heap.size x) (q : PsN X B (g b) u b os w5) : EO.Bx 31 w5 w.heap.size x := by
  obtain ⟨_, _, f, _⟩ := q
  exact (f.at' w.heap.size (Array.getElem?_eq_some_iff.1 x1).1 (by have := h.gslt b; omega)).trans x1
theorem bkn_res (q : Below w.heap.size w X) (hX : w.heap.size < X.heap.size) (h : Bk w B G g v S) (hN : BkN X B G g v T w5) : BkN w B G g v T (w5.setRow w.heap.size cs) := by
  obtain ⟨v', h1, h2, h3⟩ := bkn_from q hN
  obtain ⟨v2, k1, k2, k3⟩ := hN
  refine ⟨v2, k1.keep (T := fun k => k = w.heap.size) (fr_row (S := fun k => k = w.heap.size) rfl cs) (by have := h.gl; omega) (fun b => by have := h.gslt b; omega) (fun b k hk => ?_), h2.trans (fr_row (S := fun k => k = w.heap.size) rfl cs) (fun _ h => h) (fun k hk e => by omega), fun b k hk => ?_⟩
  · rcases k3 b k hk with c | c
    · have := h.vlt c; omega
    · omega
  · rcases k3 b k hk with c | c
    · exact .inl c
    · exact .inr (by omega)
end
set_option maxRecDepth 100000 in
set_option maxHeartbeats 1000000 in
theorem bget_any {B G : Nat} {g : Bool → Nat} {v : Bool → Value} {S : Sd} {n : Int} (w : World) (h : Bk w B G g v S) (hn : 0 ≤ n ∧ n ≤ 18446744073709551615) :
    Calls Try.prog 39 #[.pointer (some ⟨G, 0, none⟩), .int .u64 n] w fun e w' => e = .returned (.tuple #[.agg (EO.cells (takeX S n)).toArray, .int .i64 (takeA S n)]) ∧ Below w.heap.size w w' := by
  have hz := zero_or
  obtain ⟨W1, hW1, b1, x1, s1⟩ := res_new w
  have h1 := h.below b1
  have PA := Lib.hid (bat_any W1 h1 hn)
  have HW := Lib.hid hW1
  have X1 := Lib.hid fun (W : World) (q : Below W1.heap.size W1 W) => (show EO.Bx 31 W w.heap.size zeroOr from gbx_below x1 q)
  have B1 := Lib.hid b1
  clear h h1 x1 b1 hW1 s1
  rcases take_cases S n with ⟨_, e2, e3⟩ | ⟨o, _, e2, e3⟩
  · rw [e2, e3] at PA ⊢
    clear e2 e3
    go_enter Try.func39, Try.ntmps39
    go_wp2_with fail
    rw [HW.out]
    refine PA.out.mono ?_; rintro e w2 ⟨rfl, q2⟩
    obtain ⟨W3, hW3, b3, x3, s3⟩ := res_new w2
    have Q3 := Lib.hid (show Below W1.heap.size W1 (W3.setRow w2.heap.size (EO.cells zeroOr).toArray) from below_row0 (q2.trans (b3.mono q2.size)) q2.size)
    have X4 := Lib.hid (show EO.Bx 31 (W3.setRow w2.heap.size (EO.cells zeroOr).toArray) w2.heap.size zeroOr from gbx_set x3)
    have X3 := Lib.hid x3
    have HW3 := Lib.hid hW3
    clear x3 b3 hW3 q2
    go_wp2_with (first | (rw [HW3.out]) | (refine gwl_store TO zeroOr w2.heap.size X3.out rfl rfl ?_) | (refine gwl_build0 built_or ?_) | (refine gwl_store TO zeroOr w.heap.size (X1.out _ Q3.out) rfl rfl ?_))
    exact bodyPost_ret (gret TO rfl _ _ w.heap.size rfl rfl (gbx_set (X1.out _ Q3.out))) rfl ⟨rfl, row_inO (Nat.le_refl _) (B1.out.trans (Q3.out.mono B1.out.size))⟩
  · rw [e2, e3] at PA ⊢
    clear e2 e3
    go_enter Try.func39, Try.ntmps39
    go_wp2_with fail
    rw [HW.out]
    refine PA.out.mono ?_; rintro e w2 ⟨rfl, q2⟩
    obtain ⟨W3, hW3, b3, x3, s3⟩ := res_new w2
    have Q3 := Lib.hid (show Below W1.heap.size W1 (W3.setRow w2.heap.size (EO.cells o).toArray) from below_row0 (q2.trans (b3.mono q2.size)) q2.size)
    have X4 := Lib.hid (show EO.Bx 31 (W3.setRow w2.heap.size (EO.cells o).toArray) w2.heap.size o from gbx_set x3)
    have X3 := Lib.hid x3
    have HW3 := Lib.hid hW3
    clear x3 b3 hW3 q2
    go_wp2_with (first | (rw [HW3.out]) | (refine gwl_store TO o w2.heap.size X3.out rfl rfl ?_) | ((with_reducible refine gwl_load TO w2.heap.size 0 (gbx_rng X4.out) ?_ ?_ ?_); rfl; rfl) | (refine gwl_store TO o w.heap.size (X1.out _ Q3.out) rfl rfl ?_))
    exact bodyPost_ret (gret TO rfl _ _ w.heap.size rfl rfl (gbx_set (X1.out _ Q3.out))) rfl ⟨rfl, row_inO (Nat.le_refl _) (B1.out.trans (Q3.out.mono B1.out.size))⟩
set_option maxRecDepth 100000 in
set_option maxHeartbeats 1000000 in
theorem bcan_any {B G : Nat} {g : Bool → Nat} {v : Bool → Value} {S : Sd} {n : Int} (w : World) (h : Bk w B G g v S) (hn : 0 ≤ n ∧ n ≤ 18446744073709551615) :
    Calls Try.prog 36 #[.pointer (some ⟨G, 0, none⟩), .int .u64 n] w fun e w' => e = .returned (.tuple #[.agg (EO.cells (takeX S n)).toArray, .int .i64 (takeA S n)]) ∧ BkN w B G g v (cancS S n) w' := by
  have hz := zero_or
  obtain ⟨W1, hW1, b1, x1, s1⟩ := res_new w
  have h1 := h.below b1
  have PA := Lib.hid (bat_any W1 h1 hn)
  have HW := Lib.hid hW1
  have X1 := Lib.hid fun (W : World) (q : Below W1.heap.size W1 W) => (show EO.Bx 31 W w.heap.size zeroOr from gbx_below x1 q)
  have B1 := Lib.hid b1
  have HB := Lib.hid fun (W : World) (q : Below W1.heap.size W1 W) => h1.below q
  have HH := Lib.hid h
  have hbu := h.bu
  clear h h1 x1 b1 hW1
  rcases take_cases S n with ⟨e1, e2, e3⟩ | ⟨o, e1, e2, e3⟩
  · have e4 : cancS S n = S := by unfold cancS; rw [e1]
    rw [e2, e3] at PA ⊢
    rw [e4]
    clear e1 e2 e3 e4
    go_enter Try.func36, Try.ntmps36
    go_wp2_with fail
    rw [HW.out]
    refine PA.out.mono ?_; rintro e w2 ⟨rfl, q2⟩
    obtain ⟨W3, hW3, b3, x3, s3⟩ := res_new w2
    have Q3 := Lib.hid (show Below W1.heap.size W1 (W3.setRow w2.heap.size (EO.cells zeroOr).toArray) from below_row0 (q2.trans (b3.mono q2.size)) q2.size)
    have X3 := Lib.hid x3
    have HW3 := Lib.hid hW3
    clear x3 b3 hW3 q2
    go_wp2_with (first | (rw [HW3.out]) | (refine gwl_store TO zeroOr w2.heap.size X3.out rfl rfl ?_) | (refine gwl_build0 built_or ?_) | (refine gwl_store TO zeroOr w.heap.size (X1.out _ Q3.out) rfl rfl ?_))
    exact bodyPost_ret (gret TO rfl _ _ w.heap.size rfl rfl (gbx_set (X1.out _ Q3.out))) rfl ⟨rfl, bkn_same HH.out (row_inO (Nat.le_refl _) (B1.out.trans (Q3.out.mono B1.out.size)))⟩
  · have e4 : cancS S n = S.up o.bu (dropO (S o.bu) n) := by unfold cancS; rw [e1]
    have e5 := find_side hbu e1
    rw [e2, e3] at PA ⊢
    rw [e4]
    have ex : getX (S o.bu) n = o := by unfold getX; rw [e5]; rfl
    have ea : getA (S o.bu) n = 0 := by unfold getA; rw [e5]
    have PD := Lib.hid fun (W : World) (q : Below W1.heap.size W1 W) => pdrop ((HB.out W q).ps o.bu) hn
    rw [ex, ea] at PD
    clear e1 e2 e3 e4 e5 ex ea
    obtain ⟨bo, hbo⟩ : ∃ bo, o.bu = bo := ⟨_, rfl⟩
    have OWN := Lib.hid fun (W : World) (q : Below W1.heap.size W1 W) => bown_any bo W (HB.out W q)
    rw [hbo] at PD ⊢
    go_enter Try.func36, Try.ntmps36
    go_wp2_with fail
    rw [HW.out]
    refine PA.out.mono ?_; rintro e w2 ⟨rfl, q2⟩
    obtain ⟨W3, hW3, b3, x3, s3⟩ := res_new w2
    have q3 : Below W1.heap.size W1 (W3.setRow w2.heap.size (EO.cells o).toArray) := below_row0 (q2.trans (b3.mono q2.size)) q2.size
    have x4 : EO.Bx 31 (W3.setRow w2.heap.size (EO.cells o).toArray) w2.heap.size o := gbx_set x3
    have cb : (W3.setRow w2.heap.size (EO.cells o).toArray).cell? ⟨w2.heap.size, 2, none⟩ = some (.bool bo) := by rw [gbx_cell x4, ← hbo]; rfl
    have X3 := Lib.hid x3
    have HW3 := Lib.hid hW3
    have Q3 := Lib.hid q3
    clear x3 x4 b3 hW3 q2 q3
    go_wp2_with (first | (rw [HW3.out]) | (refine gwl_store TO o w2.heap.size X3.out rfl rfl ?_))
    refine (OWN.out _ Q3.out).mono ?_; rintro e w4 ⟨rfl, rfl⟩
    go_wp2_with fail
    refine (PD.out _ Q3.out).mono ?_; rintro e w5 ⟨rfl, q5⟩
    have X5 := Lib.hid (res_stays HH.out (X1.out _ Q3.out) q5)
    have R := Lib.hid (bkn_res (cs := (EO.cells o).toArray) (B1.out.trans (Q3.out.mono B1.out.size)) (by have := Q3.out.size; omega) HH.out ((HB.out _ Q3.out).turn q5))
    clear q5
    go_wp2_with (first | (refine gwl_store TO o w.heap.size X5.out rfl rfl ?_))
    exact bodyPost_ret (gret TO rfl _ _ w.heap.size rfl rfl (gbx_set X5.out)) rfl ⟨rfl, R.out⟩
end Go.Proofs.Ytdcjgcjnfcahkaa
