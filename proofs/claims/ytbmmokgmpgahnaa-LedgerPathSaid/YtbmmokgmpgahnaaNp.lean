/- LedgerApart, walked (by genNp.py). -/
import Derived.Test.YtbmmokgmpgahnaaNm
import Derived.Test.YtbmmokgmpgahnaaLd
namespace Go.Proofs.Ytbmmokgmpgahnaa
open Go.RowKit Go.Shelf
set_option linter.unusedVariables false
set_option linter.unusedSimpArgs false
set_option linter.unusedSectionVars false

theorem below_fr9 {S : Nat → Prop} {B : Nat} {w W W' : World} (h : Below B w W) (f : Fr S W W') (hS : ∀ k, S k → B ≤ k) (hB : B ≤ W.heap.size) : Below B w W' :=
  h.trans ⟨f.b0.os, f.b0.tape, f.b0.output, f.b0.size, fun k hk => f.at' k (by omega) (fun s => by have := hS k s; omega)⟩
/-- Two ledgers of the call's own. -/
structure T2 (w W : World) (g ba bp g2 b2 p2 : Nat) (L M : Lg) : Prop where
  a : Dl W g ba bp L
  b : Dl W g2 b2 p2 M
  na : ∀ k, LdS g ba bp k → w.heap.size ≤ k
  nb : ∀ k, LdS g2 b2 p2 k → w.heap.size ≤ k
  ap : ∀ k, LdS g ba bp k → ¬ LdS g2 b2 p2 k
  bl : Below w.heap.size w W
section
variable {w W W' : World} {g ba bp g2 b2 p2 : Nat} {L L' M M' : Lg}
theorem T2.below (h : T2 w W g ba bp g2 b2 p2 L M) (q : Below W.heap.size W W') : T2 w W' g ba bp g2 b2 p2 L M :=
  ⟨h.a.below q, h.b.below q, h.na, h.nb, h.ap, h.bl.trans (q.mono h.bl.size)⟩
theorem T2.one (h : T2 w W g ba bp g2 b2 p2 L M) (q : AfL W g ba bp L' W') : T2 w W' g ba bp g2 b2 p2 L' M :=
  ⟨q.1, h.b.keep q.2 (fun k h2 h1 => h.ap k h1 h2), h.na, h.nb, h.ap, below_fr9 h.bl q.2 h.na h.bl.size⟩
theorem T2.two (h : T2 w W g ba bp g2 b2 p2 L M) (q : AfL W g2 b2 p2 M' W') : T2 w W' g ba bp g2 b2 p2 L M' :=
  ⟨h.a.keep q.2 (fun k h1 h2 => h.ap k h1 h2), q.1, h.na, h.nb, h.ap, below_fr9 h.bl q.2 h.nb h.bl.size⟩
theorem T2.new {W0 : World} (bl : Below w.heap.size w W0) (h : Dl W0 g ba bp L) (h1 : ∀ k, LdS g ba bp k → w.heap.size ≤ k) (h2 : Dl W g2 b2 p2 M) (q : Below W0.heap.size W0 W) (n : ∀ k, LdS g2 b2 p2 k → W0.heap.size ≤ k) : T2 w W g ba bp g2 b2 p2 L M :=
  ⟨h.below q, h2, h1, (fun k hk => Nat.le_trans bl.size (n k hk)), (fun k hk hk2 => by have := h.lt hk; have := n k hk2; omega), bl.trans (q.mono bl.size)⟩
end
theorem po_zero_ok {c a : Int} (hc : U32' c) (ha : U32' a) : Po.ok ⟨c, a, 0, 0⟩ := ⟨hc, ha, by show -9223372036854775808 ≤ (0 : Int) ∧ (0 : Int) ≤ 9223372036854775807; decide, by show -9223372036854775808 ≤ (0 : Int) ∧ (0 : Int) ≤ 9223372036854775807; decide⟩
theorem posH_ok {L : Lg} (h : LgI L) {c a : Int} (hc : U32' c) (ha : U32' a) : Po.ok (posH L.hl c a) := by
  have b := posH_b h c a
  have e := posH_co L.hl c a
  simp only [mQ, mF] at b
  exact ⟨by rw [e.1]; exact hc, by rw [e.2]; exact ha, ⟨by omega, by omega⟩, ⟨by omega, by omega⟩⟩
theorem info_u32 : (Try.prog.info? 31).map (fun i => i.size) = some 1 := by kernel_rfl
theorem index2_0 (u v : Value) (w : World) : (Instr.index 64 (.agg #[u, v]) (.int .i64 0)).run Try.prog w = .ok u w := by
  obtain ⟨i0, h0, h1⟩ : ∃ i0, Try.prog.info? 31 = some i0 ∧ i0.size = 1 := by
    have := info_u32
    cases h : Try.prog.info? 31 with
    | none => rw [h] at this; cases this
    | some i0 => rw [h] at this; exact ⟨i0, rfl, by simpa using this⟩
  simp [Instr.index, asIntOf, run_underlying Try.underlying64, sizeOf, typeInfo, h0, h1, part, isAgg, run_underlying Try.underlying31, Result.andThen]
theorem index2_1 (u v : Value) (w : World) : (Instr.index 64 (.agg #[u, v]) (.int .i64 1)).run Try.prog w = .ok v w := by
  obtain ⟨i0, h0, h1⟩ : ∃ i0, Try.prog.info? 31 = some i0 ∧ i0.size = 1 := by
    have := info_u32
    cases h : Try.prog.info? 31 with
    | none => rw [h] at this; cases this
    | some i0 => rw [h] at this; exact ⟨i0, rfl, by simpa using this⟩
  simp [Instr.index, asIntOf, run_underlying Try.underlying64, sizeOf, typeInfo, h0, h1, part, isAgg, run_underlying Try.underlying31, Result.andThen]
set_option maxRecDepth 100000 in
set_option maxHeartbeats 16000000 in
theorem apart9_all (c d p q m n : Int) (w : World) (hc : U32' c) (hd : U32' d) :
    Calls Try.prog 6 #[.int .u32 c, .int .u32 d, .int .i64 p, .int .i64 q, .int .i64 m, .int .i64 n] w fun e w' => e = .returned (.bool true) ∧ Below w.heap.size w w' := by
  have NW := Lib.hid (fun W => lnew9 W)
  have KN := Lib.hid (fun U (qU : Below w.heap.size w U) => (known9_any U).mono (fun e W h => (⟨h.1, qU.trans (h.2.mono qU.size)⟩ : e = .returned (.bool true) ∧ Below w.heap.size w W)))
  have DEP := Lib.hid fun (g ba bp : Nat) (L : Lg) (n m : Int) (w : World) (h : Dl w g ba bp L) (hn : U32' n) => ldep9 n m w h hn
  have TRA := Lib.hid fun (g ba bp : Nat) (L : Lg) (c b s p m : Int) (w : World) (h : Dl w g ba bp L) (hc : U32' c) (hb : U32' b) (hs : U32' s) => ltra9 c b s p m w h hc hb hs
  have POS := Lib.hid fun (g ba bp : Nat) (L : Lg) (c n : Int) (w : World) (h : Dl w g ba bp L) (hc : U32' c) (hn : U32' n) => lpos9 c n w h hc hn
  have GET := Lib.hid fun (g ba bp : Nat) (L : Lg) (n : Int) (w : World) (h : Dl w g ba bp L) (hn : U32' n) => lget9 n w h hn
  have HC := Lib.hid hc
  have HD := Lib.hid hd
  have hz := zero_ac
  have IX0 := index2_0
  have IX1 := index2_1
  have B0 := Lib.hid (Below.refl w.heap.size w)
  clear hc hd
  go_enter Try.func6, Try.ntmps6
  go_wp2_with fail
  refine (NW.out w).mono ?_; rintro e w1 ⟨g, ba, bp, rfl, h1, q1, n1⟩
  have H1 := Lib.hid h1
  have Q1 := Lib.hid q1
  have N1 := Lib.hid n1
  clear h1 q1 n1
  go_wp2_with fail
  refine (NW.out w1).mono ?_; rintro e w2 ⟨g2, b2, p2, rfl, h2, q2, n2⟩
  have TA := Lib.hid (T2.new Q1.out H1.out N1.out h2 q2 n2)
  clear H1 Q1 N1 h2 q2 n2
  go_wp2_with fail
  go_loopw [33] (fun i wr => ∃ j : Nat, j ≤ 4 ∧ i = .int .i64 j ∧ T2 w wr g ba bp g2 b2 p2 (KD j) (KD j)) (fun i _ => 4 - (intOf i).toNat)
  case atStart => exact ⟨0, Nat.zero_le _, rfl, TA.out⟩
  case round =>
    obtain ⟨j, hj, rfl, ht⟩ := hrel
    have T := Lib.hid ht
    clear ht TA
    by_cases hlt : j < 4
    case pos =>
      have hd1 : decide ((j : Int) < 4) = true := decide_eq_true (by omega)
      have w1' : IntKind.i64.wrap ((j : Int) + 1) = (j : Int) + 1 := by rw [IntKind.wrap_i64]; omega
      have w2' : IntKind.u32.wrap ((j : Int) + 1) = (j : Int) + 1 := by
        simp [IntKind.wrap, IntKind.signed, IntKind.bits]; omega
      have uj : U32' ((j : Int) + 1) := ⟨by omega, by omega⟩
      have S1 := Lib.hid (kd_step j hlt)
      go_wp2_with fail
      have DA := DEP.out g ba bp _ ((j : Int) + 1) 5 _ T.out.a uj
      rw [S1.out.1, S1.out.2] at DA
      refine DA.mono ?_; rintro e w3 ⟨rfl, f3⟩
      have TB := Lib.hid (T.out.one f3)
      clear f3 DA
      go_wp2_with fail
      have DB := DEP.out g2 b2 p2 _ ((j : Int) + 1) 5 _ TB.out.b uj
      rw [S1.out.1, S1.out.2] at DB
      refine DB.mono ?_; rintro e w4 ⟨rfl, f4⟩
      have TC := Lib.hid (TB.out.two f4)
      clear f4 DB TB
      go_wp2_with fail
      refine ⟨⟨j + 1, by omega, by simp, TC.out⟩, ?_⟩
      show 4 - (intOf (.int .i64 ((j : Int) + 1))).toNat < 4 - (intOf (.int .i64 (j : Int))).toNat
      simp only [intOf]; omega
    case neg =>
      obtain rfl : j = 4 := by omega
      go_wp2_with fail
      refine (TRA.out g ba bp _ c 1 2 p m _ T.out.a HC.out (by decide) (by decide)).mono ?_; rintro e w5 ⟨rfl, f5⟩
      have T5 := Lib.hid (T.out.one f5)
      clear f5 T
      have SA : Hid (SrtP (traL (KD 4) c 1 2 p m).hl) := Lib.hid T5.out.a.inv.psr
      go_wp2_with fail
      refine (TRA.out g ba bp _ d 2 3 q n _ T5.out.a HD.out (by decide) (by decide)).mono ?_; rintro e w6 ⟨rfl, f6⟩
      have T6 := Lib.hid (T5.out.one f6)
      clear f6 T5
      go_wp2_with fail
      refine (TRA.out g2 b2 p2 _ d 2 3 q n _ T6.out.b HD.out (by decide) (by decide)).mono ?_; rintro e w7 ⟨rfl, f7⟩
      have T7 := Lib.hid (T6.out.two f7)
      clear f7 T6
      have SB : Hid (SrtP (traL (KD 4) d 2 3 q n).hl) := Lib.hid T7.out.b.inv.psr
      go_wp2_with fail
      refine (TRA.out g2 b2 p2 _ c 1 2 p m _ T7.out.b HC.out (by decide) (by decide)).mono ?_; rintro e w8 ⟨rfl, f8⟩
      have T8 := Lib.hid (T7.out.two f8)
      clear f8 T7
      have AP := Lib.hid fun (h1 : traE (KD 4) c 1 2 p m = 0) (h2 : traE (traL (KD 4) c 1 2 p m) d 2 3 q n = 0) (h3 : traE (KD 4) d 2 3 q n = 0) (h4 : traE (traL (KD 4) d 2 3 q n) c 1 2 p m = 0) => apart9 h1 h2 h3 h4 SA.out SB.out
      have PC := Lib.hid fun (h1 : traE (KD 4) c 1 2 p m = 0) (h2 : traE (traL (KD 4) c 1 2 p m) d 2 3 q n = 0) => apart9_pos h1 h2 SA.out
      have GA : Hid (∀ j : Nat, j < 4 → ∃ x : Ac, getL (traL (traL (KD 4) c 1 2 p m) d 2 3 q n) ((j : Int) + 1) = (x, 0) ∧ x.ca = 5) := Lib.hid fun j hj => ⟨_, (get_al (tra_al.1.trans tra_al.1) (tra_al.2.trans tra_al.2) _).trans (kd_get j hj), rfl⟩
      obtain ⟨e0, he0⟩ : ∃ e, traE (KD 4) c 1 2 p m = e := ⟨_, rfl⟩
      obtain ⟨e1, he1⟩ : ∃ e, traE (traL (KD 4) c 1 2 p m) d 2 3 q n = e := ⟨_, rfl⟩
      obtain ⟨e2, he2⟩ : ∃ e, traE (KD 4) d 2 3 q n = e := ⟨_, rfl⟩
      obtain ⟨e3, he3⟩ : ∃ e, traE (traL (KD 4) d 2 3 q n) c 1 2 p m = e := ⟨_, rfl⟩
      simp only [he0, he1, he2, he3] at AP PC ⊢
      clear he0 he1 he2 he3 SA SB
      obtain ⟨A2, hA2⟩ : ∃ e, (traL (traL (KD 4) c 1 2 p m) d 2 3 q n) = e := ⟨_, rfl⟩
      obtain ⟨B2, hB2⟩ : ∃ e, (traL (traL (KD 4) d 2 3 q n) c 1 2 p m) = e := ⟨_, rfl⟩
      rw [hA2] at GA
      rw [hA2, hB2] at T8
      simp only [hA2, hB2] at AP PC
      clear hA2 hB2
      by_cases z0 : e0 = 0
      case neg =>
        have d0 : decide (e0 = 0) = false := decide_eq_false z0
        have d0' : (e0 == 0) = false := by simpa using z0
        go_wp2_with fail
        refine (KN.out _ T8.out.bl).mono ?_; rintro e w9 ⟨rfl, q9⟩
        have Q9 := Lib.hid q9
        clear q9
        go_wp2_with fail
        go_ret
        exact ⟨rfl, Q9.out⟩
      subst z0
      by_cases z1 : e1 = 0
      case neg =>
        have d0 : decide (e1 = 0) = false := decide_eq_false z1
        have d0' : (e1 == 0) = false := by simpa using z1
        go_wp2_with fail
        refine (KN.out _ T8.out.bl).mono ?_; rintro e w9 ⟨rfl, q9⟩
        have Q9 := Lib.hid q9
        clear q9
        go_wp2_with fail
        go_ret
        exact ⟨rfl, Q9.out⟩
      subst z1
      by_cases z2 : e2 = 0
      case neg =>
        have d0 : decide (e2 = 0) = false := decide_eq_false z2
        have d0' : (e2 == 0) = false := by simpa using z2
        go_wp2_with fail
        refine (KN.out _ T8.out.bl).mono ?_; rintro e w9 ⟨rfl, q9⟩
        have Q9 := Lib.hid q9
        clear q9
        go_wp2_with fail
        go_ret
        exact ⟨rfl, Q9.out⟩
      subst z2
      by_cases z3 : e3 = 0
      case neg =>
        have d0 : decide (e3 = 0) = false := decide_eq_false z3
        have d0' : (e3 == 0) = false := by simpa using z3
        go_wp2_with fail
        refine (KN.out _ T8.out.bl).mono ?_; rintro e w9 ⟨rfl, q9⟩
        have Q9 := Lib.hid q9
        clear q9
        go_wp2_with fail
        go_ret
        exact ⟨rfl, Q9.out⟩
      subst z3
      have AP2 := Lib.hid (AP.out rfl rfl rfl rfl)
      have PC2 := Lib.hid (PC.out rfl rfl)
      clear AP PC
      go_wp2_with fail
      go_loopw [86] (fun i wr => ∃ j : Nat, j ≤ 4 ∧ i = .int .i64 j ∧ T2 w wr g ba bp g2 b2 p2 A2 B2) (fun i _ => 4 - (intOf i).toNat)
      case atStart => exact ⟨0, Nat.zero_le _, rfl, T8.out⟩
      case round =>
        obtain ⟨j, hj, rfl, ht⟩ := hrel
        have T := Lib.hid ht
        clear ht T8
        by_cases hlt : j < 4
        case pos =>
          have hd1 : decide ((j : Int) < 4) = true := decide_eq_true (by omega)
          have w1' : IntKind.i64.wrap ((j : Int) + 1) = (j : Int) + 1 := by rw [IntKind.wrap_i64]; omega
          have w2' : IntKind.u32.wrap ((j : Int) + 1) = (j : Int) + 1 := by
            simp [IntKind.wrap, IntKind.signed, IntKind.bits]; omega
          have uj : U32' ((j : Int) + 1) := ⟨by omega, by omega⟩
          obtain ⟨x, gx, cx⟩ := GA.out j hlt
          go_wp2_with fail
          refine wp_loop_rounds 3 ?_
          rw [rounds_succ]
          go_wp2_with fail
          have PA := POS.out g ba bp _ c ((j : Int) + 1) _ T.out.a HC.out uj
          refine PA.mono ?_; rintro e w10 ⟨rfl, q⟩
          have U0 := Lib.hid (T.out.below q)
          clear q PA
          go_wp2_with fail
          have PB := POS.out g2 b2 p2 _ c ((j : Int) + 1) _ U0.out.b HC.out uj
          rw [← AP2.out] at PB
          refine PB.mono ?_; rintro e w10' ⟨rfl, q⟩
          have V0 := Lib.hid (U0.out.below q)
          have OK0 := Lib.hid (posH_ok U0.out.a.inv HC.out uj)
          clear q PB U0
          go_wp2_with ((with_reducible refine wl_neq_po90 OK0.out ?_ ?_ ?_ ?_); rfl; rfl; rfl)
          rw [rounds_succ]
          go_wp2_with fail
          have PA := POS.out g ba bp _ d ((j : Int) + 1) _ V0.out.a HD.out uj
          refine PA.mono ?_; rintro e w11 ⟨rfl, q⟩
          have U1 := Lib.hid (V0.out.below q)
          clear q PA
          go_wp2_with fail
          have PB := POS.out g2 b2 p2 _ d ((j : Int) + 1) _ U1.out.b HD.out uj
          rw [← AP2.out] at PB
          refine PB.mono ?_; rintro e w11' ⟨rfl, q⟩
          have V1 := Lib.hid (U1.out.below q)
          have OK1 := Lib.hid (posH_ok U1.out.a.inv HD.out uj)
          clear q PB U1
          go_wp2_with ((with_reducible refine wl_neq_po90 OK1.out ?_ ?_ ?_ ?_); rfl; rfl; rfl)
          rw [rounds_succ]
          go_wp2_with fail
          have GX := GET.out g ba bp _ ((j : Int) + 1) _ V1.out.a uj
          rw [gx] at GX
          refine GX.mono ?_; rintro e w20 ⟨rfl, q⟩
          have T20 := Lib.hid (V1.out.below q)
          clear q GX
          obtain ⟨W2, hW2, b2', x2⟩ := newA9 w20
          have HW2 := Lib.hid hW2
          have X2 := Lib.hid x2
          have X3 := Lib.hid (gbx_set (x := x) x2)
          have k1 : (W2.setRow w20.heap.size (EA.cells x).toArray).cell? ⟨w20.heap.size, 1, none⟩ = some (.int .i64 x.ca) := gbx_cell X3.out 1
          have q3 : Below w20.heap.size w20 (W2.setRow w20.heap.size (EA.cells x).toArray) := below_row0 b2' (Nat.le_refl _)
          have T21 := Lib.hid (T20.out.below q3)
          rw [cx] at k1
          clear hW2 b2' x2 q3
          go_wp2_with (first | (rw [HW2.out]; refine gwl_store TA x w20.heap.size X2.out rfl rfl ?_) | (refine gwl_store TA x w20.heap.size X2.out rfl rfl ?_))
          refine ⟨⟨j + 1, by omega, by simp, T21.out⟩, ?_⟩
          show 4 - (intOf (.int .i64 ((j : Int) + 1))).toNat < 4 - (intOf (.int .i64 (j : Int))).toNat
          simp only [intOf]; omega
        case neg =>
          obtain rfl : j = 4 := by omega
          go_wp2_with fail
          have P4 := POS.out g ba bp _ c 4 _ T.out.a HC.out (by decide)
          rw [PC2.out.1] at P4
          refine P4.mono ?_; rintro e w21 ⟨he, q⟩
          change e = .returned (.agg #[.int .u32 c, .int .u32 4, .int .i64 0, .int .i64 0]) at he
          subst he
          have T21 := Lib.hid (T.out.below q)
          have OK4 := Lib.hid (po_zero_ok HC.out (show U32' 4 from by decide))
          have OK1 := Lib.hid (po_zero_ok HD.out (show U32' 1 from by decide))
          clear q P4
          by_cases hcd : c = d
          · have e1 : decide (c = d) = true := decide_eq_true hcd
            have e2 : (c == d) = true := by simpa using hcd
            go_wp2_with fail
            refine (KN.out _ T21.out.bl).mono ?_; rintro e w30 ⟨rfl, q9⟩
            have Q9 := Lib.hid q9
            clear q9
            go_wp2_with fail
            go_ret
            exact ⟨rfl, Q9.out⟩
          · have e1 : decide (c = d) = false := decide_eq_false hcd
            have e2 : (c == d) = false := by simpa using hcd
            go_wp2_with fail
            have P1 := POS.out g ba bp _ d 1 _ T21.out.a HD.out (by decide)
            rw [PC2.out.2 hcd] at P1
            refine P1.mono ?_; rintro e w22 ⟨he, q⟩
            change e = .returned (.agg #[.int .u32 d, .int .u32 1, .int .i64 0, .int .i64 0]) at he
            subst he
            have T22 := Lib.hid (T21.out.below q)
            clear q P1
            go_wp2_with fail
            refine (KN.out _ T22.out.bl).mono ?_; rintro e w30 ⟨rfl, q9⟩
            have Q9 := Lib.hid q9
            clear q9
            go_wp2_with fail
            go_ret
            exact ⟨rfl, Q9.out⟩
end Go.Proofs.Ytbmmokgmpgahnaa
