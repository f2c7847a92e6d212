/- Plain facts on regions that are walked in any order, and on a list behind a row of one's own; no program's function. -/
import Derived.Test.YtlnakhbcefmiaaaPt
import Derived.Deep.AppendLies
namespace Go.Proofs.Ytlnakhbcefmiaaa
open Go.RowKit

theorem anyh_abs {P : Program} {md : Region.Mode} {ops : Array Oper} {Q : Exit → Act → World → Prop} {S : World → Prop} {f : Nat} {l : Array Bool} {a : Act} {w : World}
    (h : ∀ O q, O = ops → q = Q → wpAnyH P md O q S f l a w) : wpAnyH P md ops Q S f l a w := h _ _ rfl rfl
theorem anyh_eq {P : Program} {md : Region.Mode} {ops : Array Oper} {Q : Exit → Act → World → Prop} {S : World → Prop} {f f' : Nat} {l l' : Array Bool} {a : Act} {w : World}
    (hf : f = f') (hl : l = l') (h : wpAnyH P md ops Q S f' l' a w) : wpAnyH P md ops Q S f l a w := by subst hf hl; exact h
/-- A list that is nil or not, behind a row of one's own, at a step of a region that draws its order. -/
theorem step_pt {w : World} {ops : Array Oper} {o : Oper} {a : Act} {K : Act → World → Prop} {Q : Exit → Act → World → Prop} {E : Prop} (hgd : o.guard = none) (s x : Operand)
    (ho : o.op = .call { callee := .builtin .append, args := #[s, x], argTypes := #[30, 30] }) (base : Nat) (v : Value) (n : Nat) (xs : List Value) (hs : a.eval s = v)
    (hown : w.ownsRow base 5 1 v n xs) (A : Option Addr) (m c : Nat) (bs : List Int) (hx : a.eval x = .slice A m c) (hr : RdB w A m bs) (h0 : A = none → m = 0 ∧ c = 0) (hlen : n + m ≤ 4000000) (hbase : base ≤ w.heap.size)
    (h : ∀ v' w', w'.ownsRow base 5 1 v' (n + m) (xs ++ bs.map (Value.int .u8)) → w.grownBy w' v.ownBlock → K (a.put o.dst v') w') :
    if Region.wanted o (yielded ops a.tmps) = true then Oper.wp Try.prog o a w K Q else E := by
  have hw : Region.wanted o (yielded ops a.tmps) = true := by simp [Region.wanted, hgd]
  rw [if_pos hw]
  obtain ⟨i0, hi0, hz0, hz1, hz2⟩ := info_parts info_u8
  cases A with
  | none =>
    obtain ⟨rfl, rfl⟩ := h0 rfl
    have e : bs = [] := List.eq_nil_of_length_eq_zero hr.1
    subst e
    have hrun := run_append_owned_none (P := Try.prog) (w := w) base 30 o.type 5 i0 1 Try.underlying30 hi0 v n xs hown
    unfold Oper.wp
    simp [execOp, ho, resolve, invoke, builtin, hs, hx, hrun, Result.andThen]
    exact h v w (by simpa using hown) (World.grownBy.refl _ _)
  | some ad =>
    exact wp_append_own w s x 30 ho base 5 i0 (.int .u8 0) 1 1 Try.underlying30 hi0 hz0 hz1 hz2 rfl (by decide) v n xs hs hown ad m c (bs.map (Value.int .u8)) hx (by rw [List.length_map, hr.1, Nat.mul_one]) (news_rd hr) (one_u8 _) (by unfold maxLen; omega) (by omega) hbase fun v' w' h2 h3 _ => h v' w' h2 h3
theorem marked_pt {w : World} {base g cap n : Nat} {bs : List Int} (hl : bs.length = n) (o : w.ownsRow base 5 1 (.slice (some ⟨g, 0, none⟩) (n + 1) cap) (n + 1) ((bs ++ [77]).map (Value.int .u8))) :
    RdB w (some ⟨g, 0, none⟩) n bs ∧ w.cell? ⟨g, n, none⟩ = some (.int .u8 77) := by
  refine ⟨⟨hl, fun _ => ⟨g, 0, rfl, fun j hj => ?_⟩⟩, ?_⟩
  · rw [Nat.zero_add, o.cellAt j (by omega)]
    rw [List.map_append, List.getElem?_append_left (by rw [List.length_map]; omega)]
    simp [List.getD, show j < bs.length by omega]
  · rw [o.cellAt n (by omega)]
    simp [hl]
end Go.Proofs.Ytlnakhbcefmiaaa
