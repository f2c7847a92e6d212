/- A list of numbers of one's own that grows within a range. -/
import Derived.Test.YtpnccbcaoifdiaaSx
import Derived.Test.YtpnccbcaoifdiaaSa
namespace Go.Proofs.Ytpnccbcaoifdiaa
open Go.RowKit Go.Shelf
set_option linter.unusedVariables false

def ENu : Elt Int := ⟨fun n => [.int .u64 n], 1, by decide, fun _ => rfl, fun x u hu => by
  simp only [List.mem_cons, List.not_mem_nil, or_false] at hu
  rcases hu with rfl
  rfl⟩
theorem info_nu : ∃ z by', (Try.prog.info? 30).map (fun i => (i.zero, i.size, i.bytes)) = some (some z, 1, by') ∧ z.cells.size = 1 ∧ by' ≤ 4096 := ⟨.int .u64 0, 8, by kernel_rfl, rfl, by decide⟩
/-- append of numbers. -/
theorem nu_app {w : World} {ops : Array Oper} {rest : List Oper} {o : Oper} {a : Act} {Q : Exit → Act → World → Prop} (hgd : o.guard = none) (s x : Operand)
    (ho : o.op = .call { callee := .builtin .append, args := #[s, x], argTypes := #[59, 59] }) (base : Nat) (v : Value) (xs : List Int) (hs : a.eval s = v)
    (hown : ENu.Own 30 w base v xs) (ad : Addr) (m c : Nat) (l : List Int) (hx : a.eval x = .slice (some ad) m c) (hr : ENu.Rd w (some ad) m l) (hlen : xs.length + m ≤ 100000) (hbase : base ≤ w.heap.size)
    (h : ∀ v' w', ENu.Own 30 w' base v' (xs ++ l) → w.grownBy w' v.ownBlock → (v'.ownBlock = v.ownBlock ∨ v'.ownBlock = some w.heap.size) → wpList Try.prog ops Q rest (a.put o.dst v') w') : wpList Try.prog ops Q (o :: rest) a w := by
  obtain ⟨z, by', hi, hzs, hby⟩ := info_nu
  obtain ⟨i0, hi0, hz0, hz1, hz2⟩ := info_parts hi
  have el : (xs ++ l).length = xs.length + m := by rw [List.length_append, hr.1]
  refine wpList_append_own_at w hgd s x 59 ho base 30 i0 z 1 by' Try.underlying59 hi0 hz0 hz1 hz2 hzs (by decide) v xs.length (ENu.flat xs) hs hown ad m c (ENu.flat l) hx ?_ (grd_news hr) (gflat_cells _) (by unfold maxLen; omega) ?_ hbase fun v' w' h2 h3 _ h5 => h v' w' (by unfold Elt.Own; rw [el, gflat_app]; exact h2) h3 h5
  · rw [gflat_len, hr.1]; rfl
  · have := Nat.mul_le_mul hlen hby
    omega
/-- Within the range: the list in the variable at K; what lay there stays. -/
structure Lg (W0 : World) (K : Nat) (l : List Or) (v : Value) (W : World) : Prop where
  own : ENu.Own 30 W W0.heap.size v (l.map (·.nu))
  var : W.heap[K]? = some (.cells #[v] 59 (0, 0))
  at' : ∀ k, k < W0.heap.size → k ≠ K → W.heap[k]? = W0.heap[k]?
  sz : W0.heap.size ≤ W.heap.size
  b0 : Below 0 W0 W
section
variable {W0 W W' w1 w' : World} {K : Nat} {l : List Or} {v v' : Value} {x : Or}
theorem own_blk {a : Addr} {n c : Nat} : (Value.slice (some a) n c).ownBlock = some a.block := rfl
theorem sv_of (h : Lg W0 K l v W) {k : Nat} : Sv K W k ↔ k = K ∨ v.ownBlock = some k := by
  have hc : W.cell? ⟨K, 0, none⟩ = some v := by rw [cell_of_row _ _ _ _ _ _ h.var]; rfl
  constructor
  · rintro (rfl | ⟨a, n, c, e, hb⟩)
    · exact .inl rfl
    · rw [hc] at e
      cases e
      exact .inr (by rw [own_blk, hb])
  · rintro (rfl | e)
    · exact .inl rfl
    · obtain ⟨A, n, c, rfl⟩ := gown_any h.own
      cases A with
      | none => cases e
      | some a =>
        rw [own_blk] at e
        exact .inr ⟨a, n, c, hc, Option.some.inj e⟩
theorem Lg.grow (h : Lg W0 K l v W) (hK : K < W0.heap.size) (q : Below W.heap.size W W') : Lg W0 K l v W' :=
  ⟨gown_below h.own q, (q.block K (Array.getElem?_eq_some_iff.1 h.var).1).trans h.var, fun k hk hn => (q.block k (Nat.lt_of_lt_of_le hk h.sz)).trans (h.at' k hk hn), Nat.le_trans h.sz q.size, h.b0.trans (q.mono (Nat.zero_le _))⟩
theorem Lg.calm (h : Lg W0 K l v W) (hK : K < W0.heap.size) (b : Below W0.heap.size W W') (hS : ∀ k, Sv K W k → (∃ cs t f, W.heap[k]? = some (.cells cs t f)) → W'.heap[k]? = W.heap[k]?) : Lg W0 K l v W' := by
  refine ⟨gown_same h.own fun k hk => hS k ((sv_of h).2 (.inr hk)) ?_, (hS K (.inl rfl) ⟨_, _, _, h.var⟩).trans h.var, fun k hk hn => (b.block k hk).trans (h.at' k hk hn), Nat.le_trans h.sz b.size, h.b0.trans (b.mono (Nat.zero_le _))⟩
  obtain ⟨cur, e⟩ := gown_cells h.own hk
  exact ⟨_, _, _, e⟩
theorem Lg.push (h : Lg W0 K l v W) (hK : K < W0.heap.size) (q : Below W.heap.size W w1) (o' : ENu.Own 30 w' W0.heap.size v' (l.map (·.nu) ++ [x.nu])) (g : w1.grownBy w' v.ownBlock) (hv : v'.ownBlock = v.ownBlock ∨ v'.ownBlock = some w1.heap.size) :
    Lg W0 K (l ++ [x]) v' (w'.setCell ⟨K, 0, none⟩ v') ∧ Kc (Sv K) W (w'.setCell ⟨K, 0, none⟩ v') ∧ KeepsFrom W0.heap.size W (w'.setCell ⟨K, 0, none⟩ v') := by
  have hKl := (Array.getElem?_eq_some_iff.1 h.var).1
  have f1 : Fr (fun k => v.ownBlock = some k) w1 w' := Fr.grown g (fun k e => e)
  have f2 : Fr (fun k => k = K ∨ v.ownBlock = some k) W w' := (Fr.below (S := fun _ => False) q).trans f1 (fun _ h => h.elim) (fun _ _ h => .inr h)
  have f3 : Fr (fun k => k = K ∨ v.ownBlock = some k) W (w'.setCell ⟨K, 0, none⟩ v') := f2.same (Fr.set (S := fun k => k = K ∨ v.ownBlock = some k) (p := ⟨K, 0, none⟩) (.inl rfl) v')
  have nK : ∀ k, v.ownBlock = some k → k ≠ K := fun k e => by have := (gown_lt h.own e).1; omega
  have nK' : ∀ k, v'.ownBlock = some k → k ≠ K := fun k e => by have := (gown_lt o' e).1; omega
  have var' : w'.heap[K]? = some (.cells #[v] 59 (0, 0)) := (f1.at' K (Nat.lt_of_lt_of_le hKl q.size) (fun e => nK K e rfl)).trans ((q.block K hKl).trans h.var)
  have L : Lg W0 K (l ++ [x]) v' (w'.setCell ⟨K, 0, none⟩ v') := by
    refine ⟨?_, heap_setCell_same w' K 0 _ _ v' var', fun k hk hn => (f3.at' k (Nat.lt_of_lt_of_le hk h.sz) (fun c => ?_)).trans (h.at' k hk hn), Nat.le_trans h.sz f3.size, h.b0.trans f3.b0⟩
    · rw [List.map_append]
      exact gown_same o' fun k hk => heap_setCell_other w' ⟨K, 0, none⟩ k v' (nK' k hk)
    · rcases c with c | c
      · exact hn c
      · have := (gown_lt h.own c).1; omega
  refine ⟨L, fun wf => ⟨fun k hk => ?_, fun k hk => ?_, f3.b0, fun k hk hn hc => f3.at' k hk (fun c => hn ((sv_of h).2 c))⟩, f3.size, fun k o _ hk hc => ?_⟩
  · rcases (sv_of L).1 hk with rfl | e
    · exact (Array.getElem?_eq_some_iff.1 L.var).1
    · exact (gown_lt L.own e).2
  · rcases (sv_of L).1 hk with rfl | e
    · exact .inl (.inl rfl)
    · rcases hv with c | c
      · exact .inl ((sv_of h).2 (.inr (by rw [← c]; exact e)))
      · rw [c] at e
        cases e
        exact .inr q.size
  · refine (f3.at' k (Array.getElem?_eq_some_iff.1 hk).1 (fun c => ?_)).trans hk
    rcases c with rfl | c
    · rw [h.var] at hk; cases hk; cases hc
    · obtain ⟨cur, e⟩ := gown_cells h.own c
      rw [e] at hk; cases hk; cases hc
theorem nu_obj (h : Lg W0 K l v W) (hK : K < W0.heap.size) (q : Below W.heap.size W w1) (g : w1.grownBy w' v.ownBlock) : w'.heap[K]? = some (.cells #[v] 59 (0, 0)) :=
  have hKl := (Array.getElem?_eq_some_iff.1 h.var).1
  (g.block K (Nat.lt_of_lt_of_le hKl q.size) (fun e => by have := (gown_lt h.own e.symm).1; omega)).trans ((q.block K hKl).trans h.var)
theorem nu_kept (h : Lg W0 K l v W) (hK : K < W0.heap.size) (q : Below W.heap.size W w1) (g : w1.grownBy w' v.ownBlock) : w'.cell? ⟨K, 0, none⟩ = some v := by
  rw [cell_of_row _ _ _ _ _ _ (nu_obj h hK q g)]; rfl
theorem nu_fz (h : Lg W0 K l v W) (hK : K < W0.heap.size) (q : Below W.heap.size W w1) (g : w1.grownBy w' v.ownBlock) : w'.frozen? ⟨K, 0, none⟩ = false := by
  simp [World.frozen?, nu_obj h hK q g]
end
end Go.Proofs.Ytpnccbcaoifdiaa
