/- A region in a round of a loop over a function is walked as anywhere: plain facts, no program's function. -/
import Derived.RangeFuncNested
import Derived.RangeFuncBound
import Derived.RangeFuncCalls
import Derived.RangeFuncLeaves
import Derived.OwnWalkIn
import Derived.OrdersIn
import Derived.Deep.RegionHeld
import Derived.Deep.Quiet
import Derived.Test.YthnmpnepgagmmaaProg
namespace Go.Proofs.Ythnmpnepgagmmaa
open Go.RowKit

section
variable {P : Program} {l n : Nat} {ops : Array Oper} {Q : Exit → Act → World → Prop}
theorem rows_in {row : String} {args : Array Value} {w : World} {R : Value → World → Prop} (h : Rows P row args w R) : RowsIn (Fence.wide.inRound l) n P row args w R :=
  fun c cs _ => let ⟨v, w', r, s⟩ := h c cs; ⟨v, w', r, stepsIn_wide.2 s⟩
theorem op_in {o : Oper} {a : Act} {w : World} {next : Act → World → Prop} (hd : ∀ c, o.op ≠ .defer c) (h : o.wp P a w next Q) : o.wpIn (Fence.wide.inRound l) n P a w next Q := by
  refine ⟨fun _ _ => trivial, ?_⟩
  rw [Oper.semAt_plain _ _ _ hd]
  unfold Oper.wp at h
  generalize (execOp a.eval o).run P w = r at h ⊢
  cases r with
  | ok v w' => cases v with
    | value v => exact h
    | skip => exact h
    | defer d => exact h
    | enter f args =>
      refine ⟨fun c => ?_, CallsIn.inRound l (callsIn_wide.2 (Calls.mono h ?_))⟩
      · cases c
      · intro e w2 q
        cases e <;> exact q
    | row row args =>
      refine ⟨fun c => ?_, rows_in h⟩
      cases c
    | _ => exact h.elim
  | halt x w' => cases x <;> first | exact h | exact h.elim
def noDefer (ops : Array Oper) : Bool := ops.toList.all fun o => match o.op with | .defer _ => false | _ => true
theorem no_defer {ops : Array Oper} (h : noDefer ops = true) {o : Oper} (ho : o ∈ ops.toList) : ∀ c, o.op ≠ .defer c := fun c e => by
  have := List.all_eq_true.1 h o ho
  rw [e] at this
  cases this
theorem opI_in {i : Nat} {K : Act → World → Prop} {a : Act} {w : World} (hd : noDefer ops = true) (hL : ¬ LetsOut Q) (h : wpOp P ops Q i K a w) : wpOpIn (Fence.wide.inRound l) n P ops Q i K a w := by
  unfold wpOp at h
  unfold wpOpIn
  cases ho : ops[i]? with
  | none => rw [ho] at h; exact h
  | some o =>
    rw [ho] at h
    dsimp only at h ⊢
    split
    · rename_i hw
      rw [if_pos hw] at h
      exact op_in (no_defer hd (by obtain ⟨hi, e⟩ := Array.getElem?_eq_some_iff.1 ho; rw [← e]; simp)) (h.resolve_right fun c => hL c.2)
    · rename_i hw
      rw [if_neg hw] at h
      exact ⟨fun _ _ => trivial, h⟩
theorem any_in {md : Region.Mode} (hd : noDefer ops = true) (hL : ¬ LetsOut Q) : ∀ (fuel : Nat) (listed : Array Bool) (a : Act) (w : World), wpAny P md ops Q fuel listed a w → wpAnyIn (Fence.wide.inRound l) n P md ops Q fuel listed a w
  | 0, _, _, _, h => h
  | fuel + 1, _, _, _, h => ⟨h.1, fun i hi => wpOpIn_mono (fun a' w' => any_in hd hL fuel _ a' w') (opI_in hd hL (h.2 i hi))⟩
theorem list_in (hd : noDefer ops = true) (hL : ¬ LetsOut Q) : ∀ (os : List Oper), (∀ o, o ∈ os → o ∈ ops.toList) → ∀ (a : Act) (w : World), wpList P ops Q os a w → wpListIn (Fence.wide.inRound l) n P ops Q os a w
  | [], _, _, _, h => h
  | o :: os, hs, a, w, h => by
    unfold wpList at h
    unfold wpListIn
    split
    · rename_i hw
      rw [if_pos hw] at h
      exact Oper.wpIn_mono (fun a' w' => list_in hd hL os (fun x hx => hs x (by simp [hx])) a' w') (op_in (no_defer hd (hs o (by simp))) (h.resolve_right fun c => hL c.2))
    · rename_i hw
      rw [if_neg hw] at h
      exact ⟨fun _ _ => trivial, list_in hd hL os (fun x hx => hs x (by simp [hx])) _ _ h⟩
/-- A plain region in a round; one that draws its order. -/
theorem region_in {id : Nat} {os : List Oper} {a : Act} {w : World} (hd : noDefer os.toArray = true) (hL : ¬ LetsOut Q) (h : wpList P os.toArray Q os a w) : (Code.region id os.toArray false).wpIn (Fence.wide.inRound l) n P Q a w :=
  wpIn_region_lit (list_in hd hL os (fun o ho => by simpa using ho) a w h)
theorem region_held_in {id : Nat} {S : World → Prop} {a : Act} {w : World} (hd : noDefer ops = true) (hL : ¬ LetsOut Q) (hm : P.follows .mixedOrders = true) (hS : S w.drew)
    (h : S w.drew → wpAnyH P .any ops Q S ops.size (Array.replicate ops.size false) a w.drew) : (Code.region id ops true).wpIn (Fence.wide.inRound l) n P Q a w :=
  wpIn_region_any hm (any_in hd hL _ _ _ _ (wpAny_of_held _ _ _ _ (h hS)))
/-- A function that ends by returning alone. -/
def retOnly (Q : Exit → Act → World → Prop) : Exit → Act → World → Prop
  | .normal, a, w => Q .normal a w
  | .ret, a, w => Q .ret a w
  | _, _, _ => False
theorem calls_marks {f : FuncId} {fn : Func} {c : Code} {args : Array Value} {w : World} {R : Ending → World → Prop} (hf : P.funcs[f]? = some fn) (hb : fn.body = some c)
    (h : c.wp P (retOnly (bodyPostM Fence.wide 9 P fn R)) { tmps := args ++ Array.replicate (fn.ntmps - args.size) undef, defers := [] } w) : Calls P f args w R :=
  (callsIn_wide (n := 9)).1 (callsIn_of_wp_marks hf hb trivial (wpIn_wide.2 (wp_mono h fun e a w q => by cases e <;> first | exact q | exact q.elim)) rfl)
/-- The marks of its loops over functions, taken off as it returns. -/
def unmark : List Nat → World → World
  | [], w => w
  | D :: Ds, w => unmark Ds (w.putObj D (.deferred none))
def marks (Ds : List Nat) : List Deferred := Ds.map fun D => { target := .collected D, args := #[] }
theorem leave_marks {fn : Func} {tmps : Array Value} {R : Ending → World → Prop} {v : Value} : ∀ (Ds : List Nat) (w : World), Ds.Nodup → (∀ D, D ∈ Ds → w.heap[D]? = some (.deferred (some []))) →
    (results fn tmps).run P (unmark Ds w) = .ok v (unmark Ds w) → R (.returned v) (unmark Ds w) → LeavesInM Fence.wide 9 P fn tmps R (marks Ds) .returning w
  | [], w, _, _, h, hR => ⟨v, h, hR⟩
  | D :: Ds, w, hn, hD, h, hR => by
    obtain ⟨n1, n2⟩ := List.nodup_cons.1 hn
    refine ⟨by simp, .inl ⟨_, _, rfl, run_takeDeferred (hD D (by simp)), leave_marks Ds _ n2 (fun E hE => ?_) h hR⟩⟩
    have hne : E ≠ D := fun e => n1 (by rw [← e]; exact hE)
    exact (World.putObj_heap_other hne).trans (hD E (by simp [hE]))
theorem ret_marks {fn : Func} {a : Act} {w : World} {R : Ending → World → Prop} {v : Value} (Ds : List Nat) (hd : a.defers = marks Ds) (hn : Ds.Nodup) (hD : ∀ D, D ∈ Ds → w.heap[D]? = some (.deferred (some [])))
    (h : (results fn a.tmps).run P (unmark Ds w) = .ok v (unmark Ds w)) (hR : R (.returned v) (unmark Ds w)) : retOnly (bodyPostM Fence.wide 9 P fn R) .ret a w := by
  show LeavesInM Fence.wide 9 P fn a.tmps R a.defers .returning w
  rw [hd]
  exact leave_marks Ds w hn hD h hR
theorem unmark_other : ∀ (Ds : List Nat) (w : World) (k : Nat), ¬ k ∈ Ds → (unmark Ds w).heap[k]? = w.heap[k]?
  | [], _, _, _ => rfl
  | D :: Ds, w, k, h => by
    show (unmark Ds (w.putObj D (.deferred none))).heap[k]? = _
    have hne : k ≠ D := fun e => h (by simp [e])
    exact (unmark_other Ds _ k (fun c => h (by simp [c]))).trans (World.putObj_heap_other hne)
theorem unmark_below : ∀ (Ds : List Nat) (w w0 : World) (N : Nat), (∀ D, D ∈ Ds → N ≤ D) → N ≤ w.heap.size → Below N w0 w → Below N w0 (unmark Ds w)
  | [], _, _, _, _, _, b => b
  | D :: Ds, w, w0, N, h, hN, b => by
    refine unmark_below Ds (w.putObj D (.deferred none)) w0 N (fun E hE => h E (by simp [hE])) ?_ (b.grown (grownBy_putObj' w D _) hN (fun k e => by cases e; exact h D (by simp)))
    exact Nat.le_trans hN (grownBy_putObj' w D (.deferred none)).size
end
end Go.Proofs.Ythnmpnepgagmmaa
