/- Plain facts on regions that are walked in any order, and on lists of lists that are copied with a mark behind each; no program's function. -/
import Derived.Test.YtknmchpikcnacaaCk
import Derived.Deep.AppendLies
namespace Go.Proofs.Ytknmchpikcnacaa
open Go.RowKit

theorem anyH_abs {P : Program} {md : Region.Mode} {ops : Array Oper} {Q : Exit → Act → World → Prop} {S : World → Prop} {f : Nat} {l : Array Bool} {a : Act} {w : World}
    (h : ∀ O q, O = ops → q = Q → wpAnyH P md O q S f l a w) : wpAnyH P md ops Q S f l a w := h _ _ rfl rfl
theorem anyH_eq {P : Program} {md : Region.Mode} {ops : Array Oper} {Q : Exit → Act → World → Prop} {S : World → Prop} {f f' : Nat} {l l' : Array Bool} {a : Act} {w : World}
    (hf : f = f') (hl : l = l') (h : wpAnyH P md ops Q S f' l' a w) : wpAnyH P md ops Q S f l a w := by subst hf hl; exact h
/-- A list that is nil or not, behind a row of one's own, at a step of a region that draws its order. -/
theorem step_append_pt {w : World} {ops : Array Oper} {o : Oper} {a : Act} {K : Act → World → Prop} {Q : Exit → Act → World → Prop} {E : Prop} (hgd : o.guard = none) (s x : Operand)
    (ho : o.op = .call { callee := .builtin .append, args := #[s, x], argTypes := #[23, 23] }) (base : Nat) (v : Value) (n : Nat) (xs : List Value) (hs : a.eval s = v)
    (hown : w.ownsRow base 5 1 v n xs) (A : Option Addr) (m c : Nat) (bs : List Int) (hx : a.eval x = .slice A m c) (hr : RdB w A m bs) (h0 : A = none → m = 0 ∧ c = 0) (hlen : n + m ≤ 4000000) (hbase : base ≤ w.heap.size)
    (h : ∀ v' w', w'.ownsRow base 5 1 v' (n + m) (xs ++ bs.map (Value.int .u8)) → w.grownBy w' v.ownBlock → K (a.put o.dst v') w') :
    if Region.wanted o (yielded ops a.tmps) = true then Oper.wp Try.prog o a w K Q else E := by
  have hw : Region.wanted o (yielded ops a.tmps) = true := by simp [Region.wanted, hgd]
  rw [if_pos hw]
  obtain ⟨i0, hi0, hz0, hz1, hz2⟩ := info_parts info_u8
  cases A with
  | none =>
    obtain ⟨rfl, rfl⟩ := h0 rfl
    have e : bs = [] := List.eq_nil_of_length_eq_zero hr.1
    subst e
    have hrun := run_append_owned_none (P := Try.prog) (w := w) base 23 o.type 5 i0 1 Try.underlying23 hi0 v n xs hown
    unfold Oper.wp
    simp [execOp, ho, resolve, invoke, builtin, hs, hx, hrun, Result.andThen]
    exact h v w (by simpa using hown) (World.grownBy.refl _ _)
  | some ad =>
    exact wp_append_own w s x 23 ho base 5 i0 (.int .u8 0) 1 1 Try.underlying23 hi0 hz0 hz1 hz2 rfl (by decide) v n xs hs hown ad m c (bs.map (Value.int .u8)) hx (by rw [List.length_map, hr.1, Nat.mul_one]) (news_rd hr) (one_u8 _) (by unfold maxLen; omega) (by omega) hbase fun v' w' h2 h3 _ => h v' w' h2 h3
theorem marked_at {w : World} {base g cap n : Nat} {bs : List Int} (hl : bs.length = n) (o : w.ownsRow base 5 1 (.slice (some ⟨g, 0, none⟩) (n + 1) cap) (n + 1) ((bs ++ [77]).map (Value.int .u8))) :
    RdB w (some ⟨g, 0, none⟩) n bs ∧ w.cell? ⟨g, n, none⟩ = some (.int .u8 77) := by
  refine ⟨⟨hl, fun _ => ⟨g, 0, rfl, fun j hj => ?_⟩⟩, ?_⟩
  · rw [Nat.zero_add, o.cellAt j (by omega)]
    rw [List.map_append, List.getElem?_append_left (by rw [List.length_map]; omega)]
    simp [List.getD, show j < bs.length by omega]
  · rw [o.cellAt n (by omega)]
    simp [hl]
theorem rows_apart {W : World} {B B' k m s s' : Nat} {vp vq : Value} {xs ys : List Value} (o1 : W.ownsRow B 5 s vp k xs) (o2 : W.ownsRow B' 23 s' vq m ys) : vp.ownBlock = none ∨ vp.ownBlock ≠ vq.ownBlock := by
  rcases o1.2 with ⟨rfl, _⟩ | ⟨a, c1, x1, rfl, _, e1, _⟩
  · exact .inl rfl
  · right
    rcases o2.2 with ⟨rfl, _⟩ | ⟨b, c2, x2, rfl, _, e2, _⟩
    · simp [Value.ownBlock]
    · intro e
      simp only [Value.ownBlock, Option.some.injEq] at e
      rw [e, e2] at e1
      simp at e1
/-- A part that was copied, with a mark behind it. -/
def MkOf (base : Nat) (W : World) (p q : Pt) : Prop :=
  ∃ g cap, q = ⟨some ⟨g, 0, none⟩, p.n, cap, p.bs⟩ ∧ W.ownsRow base 5 1 (.slice (some ⟨g, 0, none⟩) (p.n + 1) cap) (p.n + 1) ((p.bs ++ [77]).map (Value.int .u8))
/-- The first k parts, copied, and the list of the copies. -/
structure Ins (w W : World) (ps : List Pt) (k : Nat) (v : Value) (qs : List Pt) : Prop where
  len : qs.length = k
  own : W.ownsRow w.heap.size 23 1 v k (qs.map Pt.v)
  each : ∀ (j : Nat) (p q : Pt), ps[j]? = some p → qs[j]? = some q → MkOf w.heap.size W p q
  b : Below w.heap.size w W
theorem Ins.start {w W : World} (ps : List Pt) (b : Below w.heap.size w W) : Ins w W ps 0 (.slice none 0 0) [] :=
  ⟨rfl, World.ownsRow_nil _ _ _ _, fun j p q _ h => by simp at h, b⟩
theorem MkOf.below {base : Nat} {W U : World} {p q : Pt} (h : MkOf base W p q) (b : Below W.heap.size W U) : MkOf base U p q := by
  obtain ⟨g, cap, e, o⟩ := h
  exact ⟨g, cap, e, o.kept (below_grown b none) (.inr (by simp [Value.ownBlock]))⟩
theorem Ins.below {w W U : World} {ps qs : List Pt} {k : Nat} {v : Value} (h : Ins w W ps k v qs) (b : Below W.heap.size W U) : Ins w U ps k v qs :=
  ⟨h.len, h.own.kept (below_grown b none) (by cases v.ownBlock <;> simp), fun j p q h1 h2 => (h.each j p q h1 h2).below b, h.b.trans (b.mono h.b.size)⟩
/-- One more. -/
theorem Ins.next {w W U U3 : World} {ps qs : List Pt} {k g cap : Nat} {v v' : Value} {p : Pt} (h : Ins w W ps k v qs) (hp : ps[k]? = some p) (b : Below W.heap.size W U)
    (o : U.ownsRow W.heap.size 5 1 (.slice (some ⟨g, 0, none⟩) (p.n + 1) cap) (p.n + 1) ((p.bs ++ [77]).map (Value.int .u8)))
    (o3 : U3.ownsRow w.heap.size 23 1 v' (k + 1) (qs.map Pt.v ++ [.slice (some ⟨g, 0, none⟩) p.n cap])) (hg : (U.alloc (.cells #[.slice (some ⟨g, 0, none⟩) p.n cap] 23)).grownBy U3 v.ownBlock) :
    Ins w U3 ps (k + 1) v' (qs ++ [⟨some ⟨g, 0, none⟩, p.n, cap, p.bs⟩]) := by
  have b2 := b.alloc b.size (.cells #[.slice (some ⟨g, 0, none⟩) p.n cap] 23)
  have h2 := h.below b2
  refine ⟨by rw [List.length_append, h.len]; rfl, by rw [List.map_append]; exact o3, fun j p' q h3 h4 => ?_, h2.b.grown hg h2.b.size (fun i hi => (h.own.lt i hi).1)⟩
  by_cases hj : j < k
  · rw [List.getElem?_append_left (by rw [h.len]; exact hj)] at h4
    obtain ⟨g', cap', e, o'⟩ := h2.each j p' q h3 h4
    exact ⟨g', cap', e, o'.kept hg (rows_apart o' h2.own)⟩
  · have hjk : j = k := by
      have := (List.getElem?_eq_some_iff.1 h4).1
      rw [List.length_append, h.len] at this
      simp at this
      omega
    subst hjk
    rw [List.getElem?_append_right (by rw [h.len]; exact Nat.le_refl _), h.len, Nat.sub_self] at h4
    simp at h4
    rw [hp] at h3
    obtain rfl : p = p' := by simpa using h3
    have o2 := (own_less o h.b.size).alloc (.cells #[.slice (some ⟨g, 0, none⟩) p.n cap] 23)
    exact ⟨g, cap, h4.symm, o2.kept hg (rows_apart o2 h2.own)⟩
theorem cat_eq : ∀ (ps qs : List Pt), qs.length = ps.length → (∀ (j : Nat) (p q : Pt), ps[j]? = some p → qs[j]? = some q → q.bs = p.bs) → cat qs = cat ps
  | [], [], _, _ => rfl
  | [], q :: qs, h, _ => by simp at h
  | p :: ps, [], h, _ => by simp at h
  | p :: ps, q :: qs, h, e => by
    have h0 := e 0 p q rfl rfl
    have h1 := cat_eq ps qs (by simpa using h) (fun j p' q' h1 h2 => e (j + 1) p' q' (by simpa using h1) (by simpa using h2))
    simp [cat, h0, h1]
/-- The list of all copies, as parts in memory. -/
theorem Ins.pts {w W : World} {ps qs : List Pt} {k : Nat} {v : Value} (h : Ins w W ps k v qs) (hk : ps.length = k) (hps : ∀ p, p ∈ ps → p.bs.length = p.n) : ∃ A c, v = .slice A k c ∧ PtsAt W A k qs ∧ cat qs = cat ps := by
  have hm : ∀ (j : Nat) (p q : Pt), ps[j]? = some p → qs[j]? = some q → q.bs = p.bs := fun j p q h1 h2 => by
    obtain ⟨g, cap, e, _⟩ := h.each j p q h1 h2
    rw [e]
  have hok : ∀ q, q ∈ qs → q.ok W := fun q hq => by
    obtain ⟨j, hj, e⟩ := List.mem_iff_getElem.1 hq
    have h2 : qs[j]? = some q := by rw [← e]; exact List.getElem?_eq_getElem hj
    have h1 : ps[j]? = some (ps[j]'(by rw [hk, ← h.len]; exact hj)) := List.getElem?_eq_getElem _
    obtain ⟨g, cap, e', o⟩ := h.each j _ q h1 h2
    have := marked_at (hps _ (List.mem_of_getElem? h1)) o
    rw [e']
    exact ⟨this.1, fun h => by cases h⟩
  rcases h.own.2 with ⟨e1, e2⟩ | ⟨g, cap, cur, e1, _, _⟩
  · subst e2
    exact ⟨none, 0, e1, ⟨h.len, hok, fun h => absurd h (Nat.lt_irrefl 0)⟩, cat_eq ps qs (by rw [h.len, hk]) hm⟩
  · subst e1
    refine ⟨some ⟨g, 0, none⟩, cap, rfl, ⟨h.len, hok, fun _ => ⟨g, 0, rfl, fun j p hj => ?_⟩⟩, cat_eq ps qs (by rw [h.len, hk]) hm⟩
    have hjk : j < k := by rw [← h.len]; exact (List.getElem?_eq_some_iff.1 hj).1
    rw [Nat.zero_add, h.own.cellAt j (by omega), List.getElem?_map, hj]
    rfl
end Go.Proofs.Ytknmchpikcnacaa
