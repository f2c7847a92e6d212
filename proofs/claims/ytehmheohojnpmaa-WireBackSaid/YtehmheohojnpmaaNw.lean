/- Contracts of the program's own writing calls. -/
import Derived.Test.YtehmheohojnpmaaNc
namespace Go.Proofs.Ytehmheohojnpmaa
open Go.RowKit

theorem owns_pt {W : World} {base : Nat} {v : Value} {bs : List Int} (o : W.ownsRow base 5 1 v bs.length (bs.map (Value.int .u8))) : ∃ A c, v = .slice A bs.length c ∧ RdB W A bs.length bs ∧ (A = none → bs.length = 0 ∧ c = 0) := by
  rcases o.2 with ⟨e1, e2⟩ | ⟨g, cap, cur, e1, _, _⟩
  · exact ⟨none, 0, by rw [e1, e2], ⟨rfl, fun hn => absurd hn (by omega)⟩, fun _ => ⟨e2, rfl⟩⟩
  · rw [e1] at o
    refine ⟨some ⟨g, 0, none⟩, cap, e1, ⟨rfl, fun _ => ⟨g, 0, rfl, fun j hj => ?_⟩⟩, fun h => by cases h⟩
    rw [Nat.zero_add, o.cellAt j (by omega)]
    simp [List.getD, hj]
theorem own_less {W : World} {base base' e size n : Nat} {v : Value} {xs : List Value} (o : W.ownsRow base' e size v n xs) (h : base ≤ base') : W.ownsRow base e size v n xs := by
  refine ⟨o.1, ?_⟩
  rcases o.2 with h1 | ⟨g, cap, cur, e1, hb, rest⟩
  · exact .inl h1
  · exact .inr ⟨g, cap, cur, e1, Nat.le_trans h hb, rest⟩
theorem below_grown {W W' : World} (h : Below W.heap.size W W') (row : Option Nat) : W.grownBy W' row := ⟨h.os, h.tape, h.output, h.size, fun k hk _ => h.block k hk⟩
theorem made_wrote {W : World} {base : Nat} {v : Value} {bs f : List Int} {E : Ending} {W' : World} (hb : base ≤ W.heap.size) (h : Made W (bs ++ f) E W') : Wrote base v bs f W E W' := by
  obtain ⟨v', e, hn⟩ := h
  exact ⟨v', e, own_less hn.o hb, below_grown hn.q _⟩
/-- The list of two or three parts that a call joins, as it lies in memory. -/
theorem two_at (W : World) (p q : Pt) : ∀ j r, [p, q][j]? = some r → (W.alloc (.cells #[p.v, q.v] 23)).cell? ⟨W.heap.size, j, none⟩ = some r.v := by
  intro j r h
  match j, h with
  | 0, h => simp at h; subst h; simp
  | 1, h => simp at h; subst h; simp
theorem three_at (W : World) (p q s : Pt) : ∀ j r, [p, q, s][j]? = some r → (W.alloc (.cells #[p.v, q.v, s.v] 23)).cell? ⟨W.heap.size, j, none⟩ = some r.v := by
  intro j r h
  match j, h with
  | 0, h => simp at h; subst h; simp
  | 1, h => simp at h; subst h; simp
  | 2, h => simp at h; subst h; simp
theorem Pt.ok.below {W W' : World} {p : Pt} (h : p.ok W) (b : Below W.heap.size W W') : p.ok W' := ⟨h.1.below b, h.2⟩

set_option maxRecDepth 100000 in
theorem wnat_any (base : Nat) (v : Value) (bs : List Int) (k : Nat) (W : World) (h : Owns W base v bs) (hk : k < 18446744073709551616) :
    Calls Try.prog 13 #[v, .int .u64 k] W fun E W' => Wrote base v bs (nb k) W E W' := by
  obtain ⟨ho, hb, hl⟩ := h
  have ht := nb_ten hk
  obtain ⟨A, c, rfl, hr, h0⟩ := owns_pt ho
  have K := Lib.hid (natural_any k hk W)
  have HR := Lib.hid hr
  have H0 := Lib.hid h0
  clear ho hr h0
  obtain ⟨L, hL⟩ : ∃ L, bs.length = L := ⟨_, rfl⟩
  rw [hL] at HR H0 hl ⊢
  have HB := Lib.hid hb
  clear hb
  refine Calls.mono (R := fun E W' => Made W (bs ++ nb k) E W') ?_ fun E W' h => made_wrote HB.out h
  go_enter Try.func13, Try.ntmps13
  go_wp2_with fail
  refine K.out.mono ?_; rintro e w1 ⟨v1, rfl, hN⟩
  obtain ⟨A1, c1, rfl, hr1, h01⟩ := owns_pt hN.o
  have CC := Lib.hid (concat_any w1.heap.size 2 [⟨A, L, c, bs⟩, ⟨A1, (nb k).length, c1, nb k⟩] (w1.alloc (.cells #[.slice A L c, .slice A1 (nb k).length c1] 23)) rfl (by decide) (two_at w1 ⟨A, L, c, bs⟩ ⟨A1, (nb k).length, c1, nb k⟩)
    (by
      intro p hp
      simp only [List.mem_cons, List.not_mem_nil, or_false] at hp
      rcases hp with rfl | rfl
      · exact ⟨(HR.out.below hN.q).below ((Below.refl _ w1).alloc (Nat.le_refl _) _), H0.out⟩
      · exact ⟨hr1.below ((Below.refl _ w1).alloc (Nat.le_refl _) _), h01⟩)
    (by simp [cat]; omega))
  have Q1 := Lib.hid (hN.q.alloc hN.q.size (.cells #[.slice A L c, .slice A1 (nb k).length c1] 23))
  have hs := hN.q.size
  obtain ⟨M, hM⟩ : ∃ M, (nb k).length = M := ⟨_, rfl⟩
  rw [hM] at CC Q1 ⊢
  clear hN hr1 h01 K hM
  go_wp2_with fail
  refine CC.out.mono ?_; rintro e w2 ⟨v2, rfl, hN2⟩
  have Q2 := Lib.hid (Q1.out.trans (hN2.q.mono Q1.out.size))
  have O2 := Lib.hid (own_less hN2.o Q1.out.size)
  clear hN2
  go_wp2_with fail
  go_ret
  refine ⟨_, rfl, ?_, Q2.out⟩
  have := O2.out
  simpa [cat] using this
end Go.Proofs.Ytehmheohojnpmaa
