/- Contracts of the program's own writing calls, the rest: flags, texts, whole numbers. -/
import Derived.Test.YtehmheohojnpmaaNw
namespace Go.Proofs.Ytehmheohojnpmaa
open Go.RowKit

theorem size_alloc (w : World) (o : Obj) : (w.alloc o).heap.size = w.heap.size + 1 := by simp

set_option maxRecDepth 100000 in
theorem wflag_any (base : Nat) (v : Value) (bs : List Int) (k : Bool) (W : World) (h : Owns W base v bs) :
    Calls Try.prog 17 #[v, .bool k] W fun E W' => Wrote base v bs (fb k) W E W' := by
  obtain ⟨ho, hb, hl⟩ := h
  obtain ⟨A, c, rfl, hr, h0⟩ := owns_pt ho
  have HR := Lib.hid hr
  have H0 := Lib.hid h0
  clear ho hr h0
  obtain ⟨L, hL⟩ : ∃ L, bs.length = L := ⟨_, rfl⟩
  rw [hL] at HR H0 hl ⊢
  have HB := Lib.hid hb
  have HL := Lib.hid hL
  clear hb hL
  refine Calls.mono (R := fun E W' => Made W (bs ++ fb k) E W') ?_ fun E W' h => made_wrote HB.out h
  have CC := fun (x : Int) => Lib.hid (concat_any (W.heap.size + 1) 2 [⟨A, L, c, bs⟩, ⟨some ⟨W.heap.size, 0, none⟩, 1, 1, [x]⟩] ((W.alloc (.cells #[.int .u8 x] 5)).alloc (.cells #[.slice A L c, .slice (some ⟨W.heap.size, 0, none⟩) 1 1] 23)) rfl (by decide)
    (by have := two_at (W.alloc (.cells #[.int .u8 x] 5)) ⟨A, L, c, bs⟩ ⟨some ⟨W.heap.size, 0, none⟩, 1, 1, [x]⟩; rwa [size_alloc] at this)
    (by
      intro p hp
      simp only [List.mem_cons, List.not_mem_nil, or_false] at hp
      rcases hp with rfl | rfl
      · exact ⟨(HR.out.below ((Below.refl _ W).alloc (Nat.le_refl _) _)).below ((Below.refl _ _).alloc (Nat.le_refl _) _), H0.out⟩
      · obtain ⟨A', c', e, r⟩ := (new_one W x).rd
        cases e
        exact ⟨r.below ((Below.refl _ _).alloc (Nat.le_refl _) _), fun h => by cases h⟩)
    (by simp [cat]; have := HL.out; omega))
  have QQ := fun (x : Int) => Lib.hid (((Below.refl _ W).alloc (Nat.le_refl _) (.cells #[.int .u8 x] 5)).alloc (one_alloc _ _) (.cells #[.slice A L c, .slice (some ⟨W.heap.size, 0, none⟩) 1 1] 23))
  cases k
  · have C := CC 0
    have Q1 := QQ 0
    clear CC QQ
    go_enter Try.func17, Try.ntmps17
    go_wp2_with fail
    refine C.out.mono ?_; rintro e w2 ⟨v2, rfl, hN2⟩
    have Q2 := Lib.hid (Q1.out.trans (hN2.q.mono Q1.out.size))
    have O2 := Lib.hid (own_less hN2.o Q1.out.size)
    clear hN2
    go_wp2_with fail
    go_ret
    refine ⟨_, rfl, ?_, Q2.out⟩
    have := O2.out
    simpa [cat, fb] using this
  · have C := CC 1
    have Q1 := QQ 1
    clear CC QQ
    go_enter Try.func17, Try.ntmps17
    go_wp2_with fail
    refine C.out.mono ?_; rintro e w2 ⟨v2, rfl, hN2⟩
    have Q2 := Lib.hid (Q1.out.trans (hN2.q.mono Q1.out.size))
    have O2 := Lib.hid (own_less hN2.o Q1.out.size)
    clear hN2
    go_wp2_with fail
    go_ret
    refine ⟨_, rfl, ?_, Q2.out⟩
    have := O2.out
    simpa [cat, fb] using this

set_option maxRecDepth 100000 in
theorem wtext_any (base : Nat) (v : Value) (bs : List Int) (A2 : Option Addr) (n2 c2 : Nat) (ts : List Int) (W : World) (h : Owns W base v bs) (hr2 : RdB W A2 n2 ts) (hn2 : n2 ≤ 100000) (h02 : A2 = none → n2 = 0 ∧ c2 = 0) :
    Calls Try.prog 19 #[v, .slice A2 n2 c2] W fun E W' => Wrote base v bs (tb ts) W E W' := by
  obtain ⟨ho, hb, hl⟩ := h
  have hl2 := hr2.1
  have ht := nb_ten (n := n2) (by omega)
  obtain ⟨A, c, rfl, hr, h0⟩ := owns_pt ho
  have K := Lib.hid (natural_any n2 (by omega) W)
  have HR := Lib.hid hr
  have H0 := Lib.hid h0
  have HR2 := Lib.hid hr2
  have H02 := Lib.hid h02
  have HT : Hid (tb ts = nb n2 ++ ts) := Lib.hid (by unfold tb; rw [hl2])
  clear ho hr h0 hr2 h02
  obtain ⟨L, hL⟩ : ∃ L, bs.length = L := ⟨_, rfl⟩
  rw [hL] at HR H0 hl ⊢
  have HB := Lib.hid hb
  clear hb
  refine Calls.mono (R := fun E W' => Made W (bs ++ tb ts) E W') ?_ fun E W' h => made_wrote HB.out h
  have HL2 := Lib.hid hl2
  clear hl2
  go_enter Try.func19, Try.ntmps19
  go_wp2_with fail
  refine K.out.mono ?_; rintro e w1 ⟨v1, rfl, hN⟩
  obtain ⟨A1, c1, rfl, hr1, h01⟩ := owns_pt hN.o
  have CC := Lib.hid (concat_any w1.heap.size 3 [⟨A, L, c, bs⟩, ⟨A1, (nb n2).length, c1, nb n2⟩, ⟨A2, n2, c2, ts⟩] (w1.alloc (.cells #[.slice A L c, .slice A1 (nb n2).length c1, .slice A2 n2 c2] 23)) rfl (by decide) (three_at w1 ⟨A, L, c, bs⟩ ⟨A1, (nb n2).length, c1, nb n2⟩ ⟨A2, n2, c2, ts⟩)
    (by
      intro p hp
      simp only [List.mem_cons, List.not_mem_nil, or_false] at hp
      rcases hp with rfl | rfl | rfl
      · exact ⟨(HR.out.below hN.q).below ((Below.refl _ w1).alloc (Nat.le_refl _) _), H0.out⟩
      · exact ⟨hr1.below ((Below.refl _ w1).alloc (Nat.le_refl _) _), h01⟩
      · exact ⟨(HR2.out.below hN.q).below ((Below.refl _ w1).alloc (Nat.le_refl _) _), H02.out⟩)
    (by simp [cat]; have := HL2.out; omega))
  have Q1 := Lib.hid (hN.q.alloc hN.q.size (.cells #[.slice A L c, .slice A1 (nb n2).length c1, .slice A2 n2 c2] 23))
  have hs := hN.q.size
  obtain ⟨M, hM⟩ : ∃ M, (nb n2).length = M := ⟨_, rfl⟩
  rw [hM] at CC Q1 ⊢
  clear hN hr1 h01 K hM
  go_wp2_with fail
  refine CC.out.mono ?_; rintro e w2 ⟨v2, rfl, hN2⟩
  have Q2 := Lib.hid (Q1.out.trans (hN2.q.mono Q1.out.size))
  have O2 := Lib.hid (own_less hN2.o Q1.out.size)
  clear hN2
  go_wp2_with fail
  go_ret
  refine ⟨_, rfl, ?_, Q2.out⟩
  have := O2.out
  rw [HT.out]
  simpa [cat] using this

theorem xor_zero {k : Int} (h0 : 0 ≤ k) (h1 : k ≤ 9223372036854775807) : bits .xor .u64 (k * 2) (k / 9223372036854775808) = (((2 * k).toNat : Nat) : Int) := by
  have := bits_xor_u64_nat (2 * k).toNat 0 (by omega) (by omega)
  rw [Nat.xor_zero] at this
  rw [show k / 9223372036854775808 = ((0 : Nat) : Int) by omega, show k * 2 = (((2 * k).toNat : Nat) : Int) by omega]
  exact this
theorem xor_ones (a : Nat) (h : a < 18446744073709551616) : a ^^^ 18446744073709551615 = 18446744073709551615 - a := by
  have e := congrArg BitVec.toNat (BitVec.xor_allOnes (x := BitVec.ofNat 64 a))
  rw [BitVec.toNat_xor, BitVec.toNat_not, BitVec.toNat_allOnes, BitVec.toNat_ofNat, Nat.mod_eq_of_lt (by omega)] at e
  exact e
theorem xor_neg {k : Int} (h0 : k < 0) (h1 : -9223372036854775808 ≤ k) : bits .xor .u64 (IntKind.u64.wrap (IntKind.u64.wrap k * 2)) (IntKind.u64.wrap (k / 9223372036854775808)) = (((2 * (-(k + 1)) + 1).toNat : Nat) : Int) := by
  have e1 : IntKind.u64.wrap (IntKind.u64.wrap k * 2) = (((2 * k + 18446744073709551616).toNat : Nat) : Int) := by rw [IntKind.wrap_u64, IntKind.wrap_u64]; omega
  have e2 : IntKind.u64.wrap (k / 9223372036854775808) = ((18446744073709551615 : Nat) : Int) := by rw [IntKind.wrap_u64]; omega
  rw [e1, e2, bits_xor_u64_nat _ _ (by omega) (by omega), xor_ones _ (by omega)]
  congr 1; omega

set_option maxRecDepth 100000 in
theorem wint_any (base : Nat) (v : Value) (bs : List Int) (k : Int) (W : World) (h : Owns W base v bs) (hk : -9223372036854775808 ≤ k ∧ k ≤ 9223372036854775807) :
    Calls Try.prog 15 #[v, .int .i64 k] W fun E W' => Wrote base v bs (ib k) W E W' := by
  by_cases h0 : 0 ≤ k
  · have C := wnat_any base v bs (2 * k).toNat W h (by omega)
    rw [← xor_zero h0 hk.2, show nb (2 * k).toNat = ib k from (if_pos h0).symm] at C
    have CC := Lib.hid C
    clear h C
    go_enter Try.func15, Try.ntmps15
    go_wp2_with fail
    refine CC.out.mono ?_; rintro e w1 ⟨v', rfl, r⟩
    have R := Lib.hid r
    clear r
    go_wp2_with fail
    go_ret
    exact ⟨_, rfl, R.out⟩
  · have C := wnat_any base v bs (2 * (-(k + 1)) + 1).toNat W h (by omega)
    rw [← xor_neg (by omega) hk.1, show nb (2 * (-(k + 1)) + 1).toNat = ib k from (if_neg h0).symm] at C
    have CC := Lib.hid C
    clear h C
    go_enter Try.func15, Try.ntmps15
    go_wp2_with fail
    refine CC.out.mono ?_; rintro e w1 ⟨v', rfl, r⟩
    have R := Lib.hid r
    clear r
    go_wp2_with fail
    go_ret
    exact ⟨_, rfl, R.out⟩
end Go.Proofs.Ytehmheohojnpmaa
