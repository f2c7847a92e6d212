/- Lists of contracts: made, appended to, cut; a contract built. No program's function. -/
import Derived.Test.YtejhnfkljfdejaaKm
import Derived.Test.YtejhnfkljfdejaaKf
import Derived.Great.BuildSlice
import Derived.Laws.AppendOwnNone
namespace Go.Proofs.Ytejhnfkljfdejaa
open Go.RowKit

/-- A list of contracts that is read: m of them at A. -/
def RdC (w : World) (A : Option Addr) (m : Nat) (cs : List Ct) : Prop := cs.length = m ∧ (A = none → m = 0) ∧ (0 < m → ∀ a, A = some a → a = ⟨a.block, a.off, none⟩) ∧ (∀ b o, 0 < m → A = some ⟨b, o, none⟩ → w.rangeAt b o (flat cs))
theorem info_ctz : (Try.prog.info? 45).map (fun i => (i.zero, i.size, i.bytes)) = some (some (.agg zeroCt.cells), 27, 208) := by kernel_rfl
theorem one_ct (cs : List Ct) : ∀ u ∈ flat cs, u.oneCell' = true := by
  intro u hu
  obtain ⟨c, _, hc⟩ := List.mem_flatMap.1 hu
  simp only [Ct.cellL, Sp.cellL, List.mem_append, List.mem_cons, List.mem_map, List.not_mem_nil, or_false] at hc
  rcases hc with ((rfl | rfl | rfl | rfl | rfl | rfl) | ⟨_, _, rfl⟩ | rfl | rfl | rfl) | rfl | rfl <;> rfl
theorem news_ct {w : World} {a : Addr} {m : Nat} {cs : List Ct} (h : RdC w (some a) m cs) : ∀ j u, (flat cs)[j]? = some u → w.cell? (a.add j) = some u := by
  intro j u hj
  obtain ⟨h1, _, h3, h4⟩ := h
  have c : 0 < m := by
    rcases Nat.eq_zero_or_pos m with c | c
    · subst c
      rw [List.length_eq_zero_iff.1 h1] at hj
      simp [flat] at hj
    · exact c
  have e := h3 c a rfl
  obtain ⟨b, o, s⟩ := a
  cases e
  rw [Addr.add_mid]
  exact h4 b o c rfl j u hj
theorem wpl_app {w : World} {ops : Array Oper} {rest : List Oper} {o : Oper} {a : Act} {Q : Exit → Act → World → Prop} (hgd : o.guard = none) (s x : Operand)
    (ho : o.op = .call { callee := .builtin .append, args := #[s, x], argTypes := #[27, 27] }) (base : Nat) (v : Value) (n : Nat) (xs : List Ct) (hs : a.eval s = v)
    (hown : w.ownsRow base 45 27 v n (flat xs)) (A : Option Addr) (m c : Nat) (cs : List Ct) (hx : a.eval x = .slice A m c) (hr : RdC w A m cs) (h0 : A = none → c = 0) (hsh : ∀ y, y ∈ cs → y.sp.sh.length = 16) (hlen : n + m ≤ 4000) (hbase : base ≤ w.heap.size)
    (h : ∀ v' w', w'.ownsRow base 45 27 v' (n + m) (flat (xs ++ cs)) → w.grownBy w' v.ownBlock → wpList Try.prog ops Q rest (a.put o.dst v') w') : wpList Try.prog ops Q (o :: rest) a w := by
  obtain ⟨i0, hi0, hz0, hz1, hz2⟩ := info_parts info_ctz
  have ef : flat (xs ++ cs) = flat xs ++ flat cs := by simp [flat]
  cases A with
  | none =>
    have hm := hr.2.1 rfl
    have hc := h0 rfl
    subst hm hc
    have e : cs = [] := List.eq_nil_of_length_eq_zero hr.1
    subst e
    refine wpList_append_own_none hgd s x 27 ho base 45 i0 27 Try.underlying27 hi0 v n (flat xs) hs hown hx ?_
    exact h v w (by simpa using hown) (World.grownBy.refl _ _)
  | some ad =>
    refine wpList_append_own w hgd s x 27 ho base 45 i0 _ 27 208 Try.underlying27 hi0 hz0 hz1 hz2 (by show zeroCt.cells.size = 27; kernel_rfl) (by decide) v n (flat xs) hs hown ad m c (flat cs) hx ?_ (news_ct hr) (one_ct _) (by unfold maxLen; omega) (by omega) hbase fun v' w' h2 h3 _ => h v' w' (ef ▸ h2) h3
    rw [flat_len cs hsh, hr.1]
theorem flat_part {cs : List Ct} {i j q : Nat} (hij : i ≤ j) (hj : j ≤ cs.length) (hs : ∀ y, y ∈ cs → y.sp.sh.length = 16) (hq : q < (j - i) * 27) : (flat ((cs.take j).drop i))[q]? = (flat cs)[i * 27 + q]? := by
  have hs2 : ∀ y, y ∈ (cs.take j).drop i → y.sp.sh.length = 16 := fun y hy => hs y (List.mem_of_mem_take (List.mem_of_mem_drop hy))
  have hk : q / 27 < j - i := by omega
  obtain ⟨x, hx⟩ : ∃ x, cs[i + q / 27]? = some x := ⟨cs[i + q / 27]'(by omega), List.getElem?_eq_getElem _⟩
  have hx2 : ((cs.take j).drop i)[q / 27]? = some x := by
    rw [List.getElem?_drop, List.getElem?_take, if_pos (by omega), hx]
  have e1 : q = q / 27 * 27 + q % 27 := by omega
  have e2 : i * 27 + q = (i + q / 27) * 27 + q % 27 := by omega
  have f1 := flat_at _ _ x hs2 hx2 (q % 27) (by omega)
  have f2 := flat_at _ _ x hs hx (q % 27) (by omega)
  rw [← e1] at f1
  rw [← e2] at f2
  rw [f1, f2]
/-- A row of one's own is read; so is a part of it. -/
theorem own_read {w : World} {B : Nat} {cs : List Ct} {A : Option Addr} {c : Nat} (o : w.ownsRow B 45 27 (.slice A cs.length c) cs.length (flat cs)) (i j : Nat) (hij : i ≤ j) (hj : j ≤ cs.length) (hs : ∀ y, y ∈ cs → y.sp.sh.length = 16) :
    RdC w (A.map fun a => ⟨a.block, i * 27, none⟩) (j - i) ((cs.take j).drop i) := by
  have hs2 : ∀ y, y ∈ (cs.take j).drop i → y.sp.sh.length = 16 := fun y hy => hs y (List.mem_of_mem_take (List.mem_of_mem_drop hy))
  have hlen : ((cs.take j).drop i).length = j - i := by rw [List.length_drop, List.length_take]; omega
  rcases o.2 with ⟨e, n⟩ | ⟨b, c', cur, e, _⟩
  · obtain ⟨rfl, -, -⟩ : A = none ∧ cs.length = 0 ∧ c = 0 := by injection e with e1 e2 e3; exact ⟨e1, e2, e3⟩
    exact ⟨hlen, fun _ => by omega, fun _ a h => by simp at h, fun b p _ h => by simp at h⟩
  · obtain ⟨rfl, -⟩ : A = some ⟨b, 0, none⟩ ∧ c = c' := by injection e with e1 e2 e3; exact ⟨e1, e3⟩
    refine ⟨hlen, fun h => by simp at h, fun _ a h => ?_, fun b1 p hp h => ?_⟩
    · simp only [Option.map_some, Option.some.injEq] at h
      subst h
      rfl
    simp only [Option.map_some, Option.some.injEq, Addr.mk.injEq, and_true] at h
    obtain ⟨rfl, rfl⟩ := h
    intro q u hq
    have hl := (List.getElem?_eq_some_iff.1 hq).1
    rw [flat_len _ hs2, List.length_drop, List.length_take] at hl
    have hl2 : q < (j - i) * 27 := by
      have e3 : min j cs.length - i = j - i := by omega
      rwa [e3] at hl
    rw [o.cellAt (i * 27 + q) (by omega), ← flat_part hij hj hs hl2, hq]
theorem own_read' {w : World} {B n : Nat} {cs : List Ct} {A : Option Addr} {c : Nat} (hn : cs.length = n) (o : w.ownsRow B 45 27 (.slice A n c) cs.length (flat cs)) (i j : Nat) (hij : i ≤ j) (hj : j ≤ n) (hs : ∀ y, y ∈ cs → y.sp.sh.length = 16) :
    RdC w (A.map fun a => ⟨a.block, i * 27, none⟩) (j - i) ((cs.take j).drop i) := by
  subst hn
  exact own_read o i j hij hj hs
theorem rdc_nil (w : World) (b o : Nat) : RdC w (some ⟨b, o, none⟩) 0 [] := ⟨rfl, (fun _ => rfl), (fun h => absurd h (Nat.lt_irrefl 0)), fun _ _ h => absurd h (Nat.lt_irrefl 0)⟩
end Go.Proofs.Ytejhnfkljfdejaa
