/- What the walks of wire's statements ask of the program's own writing calls, and the statements' helpers. -/
import Derived.Test.YtehmheohojnpmaaKept
import Derived.Deep.RegionHeld3
namespace Go.Proofs.Ytehmheohojnpmaa
open Go.RowKit

/-- A form was written behind a list. -/
def Wrote (base : Nat) (v : Value) (bs f : List Int) (W : World) (E : Ending) (W' : World) : Prop :=
  ∃ v', E = .returned v' ∧ W'.ownsRow base 5 1 v' (bs ++ f).length ((bs ++ f).map (Value.int .u8)) ∧ W.grownBy W' v.ownBlock
def Owns (W : World) (base : Nat) (v : Value) (bs : List Int) : Prop := W.ownsRow base 5 1 v bs.length (bs.map (Value.int .u8)) ∧ base ≤ W.heap.size ∧ bs.length ≤ 1000000
/-- The writing calls. -/
structure Writes : Prop where
  nat : ∀ (base : Nat) (v : Value) (bs : List Int) (k : Nat) (W : World), Owns W base v bs → k < 18446744073709551616 → Calls Try.prog 13 #[v, .int .u64 k] W fun E W' => Wrote base v bs (nb k) W E W'
  int : ∀ (base : Nat) (v : Value) (bs : List Int) (k : Int) (W : World), Owns W base v bs → -9223372036854775808 ≤ k ∧ k ≤ 9223372036854775807 → Calls Try.prog 15 #[v, .int .i64 k] W fun E W' => Wrote base v bs (ib k) W E W'
  flag : ∀ (base : Nat) (v : Value) (bs : List Int) (k : Bool) (W : World), Owns W base v bs → Calls Try.prog 17 #[v, .bool k] W fun E W' => Wrote base v bs (fb k) W E W'
  text : ∀ (base : Nat) (v : Value) (bs : List Int) (A : Option Addr) (n c : Nat) (ts : List Int) (W : World), Owns W base v bs → RdB W A n ts → n ≤ 100000 → (A = none → n = 0 ∧ c = 0) → (∀ a, A = some a → v.ownBlock ≠ some a.block) →
    Calls Try.prog 19 #[v, .slice A n c] W fun E W' => Wrote base v bs (tb ts) W E W'
  known : ∀ W, Calls Try.prog 10 #[] W fun E W' => E = .returned (.bool true) ∧ Below W.heap.size W W'

set_option maxRecDepth 100000 in
theorem copy_any (A : Option Addr) (n c gx : Nat) (bs : List Int) (w : World) (hx : w.cell? ⟨gx, 0, none⟩ = some (.slice A n c)) (h : RdB w A n bs) (hn : n ≤ 100000) (h0 : A = none → n = 0 ∧ c = 0) :
    Calls Try.prog 12 #[.pointer (some ⟨gx, 0, none⟩)] w fun e W => Made w bs e W := by
  have hl := h.1
  obtain ⟨i0, hi0, hz0, hz1, hz2⟩ := info_parts info_u8
  have O := Lib.hid (own_none w)
  have Q := Lib.hid ((Below.refl _ w).alloc (Nat.le_refl _) (.cells #[] 5))
  have R0 := Lib.hid (h.below Q.out)
  have hx1 := (Q.out.cell (p := ⟨gx, 0, none⟩) (World.block_lt_of_cell? w _ hx)).trans hx
  cases A with
  | none =>
    obtain ⟨rfl, rfl⟩ := h0 rfl
    have : bs = [] := List.eq_nil_of_length_eq_zero hl
    subst this
    clear hl h
    go_enter Try.func12, Try.ntmps12
    go_wp2
    go_ret
    exact ⟨_, rfl, O.out, Q.out⟩
  | some ad =>
    have NW := Lib.hid (news_rd R0.out)
    have HL : Hid ((bs.map (Value.int .u8)).length = n * 1) := Lib.hid (by simp [hl])
    have HLL := Lib.hid hl
    clear hl h
    go_enter Try.func12, Try.ntmps12
    go_wp2_with (at_builtin; refine wpList_append_own _ rfl (.tmp 2) (.tmp 3) 23 rfl w.heap.size 5 i0 (.int .u8 0) 1 1 Try.underlying23 hi0 hz0 hz1 hz2 rfl (by decide) (.slice (some ⟨w.heap.size, 0, none⟩) 0 0) 0 [] rfl O.out ad n c (bs.map (Value.int .u8)) rfl HL.out NW.out (one_u8 _) (by unfold maxLen; omega) (by omega) (one_alloc _ _) ?_; intro v2 w2 hown2 hgrow2 _; rw [Nat.zero_add, List.nil_append] at hown2; have HO := Lib.hid hown2; have HG := Lib.hid (Q.out.grown hgrow2 (one_alloc _ _) (by intro k hk; simp [Value.ownBlock] at hk; omega)); clear hown2 hgrow2)
    go_ret
    refine ⟨_, rfl, ?_, HG.out⟩
    rw [HLL.out]
    exact HO.out

/-- S may be made stronger on the way. -/
theorem wpAnyH_more {P : Program} {ops : Array Oper} {Q : Exit → Act → World → Prop} {md : Region.Mode} {S S1 : World → Prop} (hs : ∀ w, S1 w → S w) : ∀ (fuel : Nat) (listed : Array Bool) (a : Act) (w : World),
    wpAnyH P md ops Q S1 fuel listed a w → wpAnyH P md ops Q S fuel listed a w
  | 0, _, _, _, h => h
  | fuel + 1, listed, a, w, h => by
    exact ⟨h.1, fun i hi => wpOp_mono (fun a' w' k => ⟨hs _ k.1, wpAnyH_more hs fuel _ a' w' k.2⟩) (h.2 i hi)⟩

/-- What every world of a long statement has: nothing old has turned, and the lists that were made stand there. -/
def SS (w0 : World) (L : List (Option Addr × List Int)) (U : World) : Prop := Below w0.heap.size w0 U ∧ ∀ x ∈ L, RdB U x.1 x.2.length x.2
theorem SS.keep {w0 : World} {L : List (Option Addr × List Int)} {U U' : World} (h : SS w0 L U) (b : Below U.heap.size U U') : SS w0 L U' := ⟨h.1.trans (b.mono h.1.size), fun x hx => (h.2 x hx).below b⟩
theorem SS.less {w0 : World} {L : List (Option Addr × List Int)} {x : Option Addr × List Int} {U : World} (h : SS w0 (x :: L) U) : SS w0 L U := ⟨h.1, fun y hy => h.2 y (List.mem_cons_of_mem x hy)⟩
theorem SS.add {w0 : World} {L : List (Option Addr × List Int)} {U : World} (h : SS w0 L U) {A : Option Addr} {bs : List Int} (r : RdB U A bs.length bs) : SS w0 ((A, bs) :: L) U :=
  ⟨h.1, fun y hy => by
    rcases List.mem_cons.1 hy with rfl | hy
    · exact r
    · exact h.2 y hy⟩
theorem SS.head {w0 : World} {L : List (Option Addr × List Int)} {U : World} {A : Option Addr} {bs : List Int} (h : SS w0 ((A, bs) :: L) U) : RdB U A bs.length bs := h.2 _ (List.mem_cons_self ..)
theorem owns_rd {W : World} {base : Nat} {v : Value} {bs : List Int} (o : W.ownsRow base 5 1 v bs.length (bs.map (Value.int .u8))) : ∃ A c, v = .slice A bs.length c ∧ RdB W A bs.length bs := by
  rcases o.2 with ⟨e1, e2⟩ | ⟨g, cap, cur, e1, _, _⟩
  · exact ⟨none, 0, by rw [e1, e2], rfl, fun hn => absurd hn (by omega)⟩
  · rw [e1] at o
    refine ⟨some ⟨g, 0, none⟩, cap, e1, rfl, fun _ => ⟨g, 0, rfl, fun j hj => ?_⟩⟩
    rw [Nat.zero_add, o.cellAt j (by omega)]
    simp [List.getD, hj]
theorem Wrote.below {base : Nat} {v : Value} {bs f : List Int} {W : World} {E : Ending} {W' : World} (h : Wrote base v bs f W E W') (o : Owns W base v bs) {N : Nat} (hN : N ≤ base) : Below N W W' := by
  obtain ⟨v', _, _, hg⟩ := h
  exact (Below.refl _ W).grown hg (Nat.le_trans hN o.2.1) fun k hk => Nat.le_trans hN (o.1.lt k hk).1
theorem ib_ten {i : Int} (h : -9223372036854775808 ≤ i ∧ i ≤ 9223372036854775807) : (ib i).length ≤ 10 := by
  unfold ib
  split
  · exact nb_ten (by omega)
  · exact nb_ten (by omega)
theorem fb_ten (f : Bool) : (fb f).length ≤ 10 := by cases f <;> decide
theorem tb_len {ts : List Int} {m : Nat} (h : ts.length = m) (hm : m ≤ 100000) : (tb ts).length ≤ 100010 := by
  unfold tb
  have := nb_ten (n := ts.length) (by omega)
  rw [List.length_append]; omega
end Go.Proofs.Ytehmheohojnpmaa
