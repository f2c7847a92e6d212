/- WordsOnly, walked (by genWdo.py). -/
import Derived.Test.YtbmlpokkojhhjaaG12
import Derived.Test.YtbmlpokkojhhjaaG06
namespace Go.Proofs.Ytbmlpokkojhhjaa
open Go.RowKit
set_option linter.unusedVariables false
set_option linter.unusedSimpArgs false

theorem byte_new15 (w : World) (x : Int) : RdB (w.alloc (.cells #[.int .u8 x] 5)) (some ⟨w.heap.size, 0, none⟩) 1 [x] := by
  refine ⟨rfl, fun _ => ⟨w.heap.size, 0, rfl, fun j hj => ?_⟩⟩
  obtain rfl : j = 0 := by omega
  rw [cell_of_row _ _ _ _ _ _ (heap_alloc_new w _)]
  rfl
theorem own_snoc15 {W : World} {base fl : Nat} {v : Value} {FS : List Int} {x : Int} (hl : FS.length = fl) (o : W.ownsRow base 5 1 v (fl + 1) (FS.map (Value.int .u8) ++ [x].map (Value.int .u8))) :
    W.ownsRow base 5 1 v (FS ++ [x]).length ((FS ++ [x]).map (Value.int .u8)) := by
  rw [List.length_append, hl, List.map_append]
  exact o
set_option maxRecDepth 100000 in
set_option maxHeartbeats 32000000 in
theorem only15_all (K : WordsK) (A : Option Addr) (len cap : Nat) (bs : List Int) (x : Int) (w : World) (hr : RdB w A len bs) (hy : By bs) (h0 : A = none → len = 0 ∧ cap = 0) (hl : len ≤ maxLen) (hx : 0 ≤ x ∧ x ≤ 255) :
    Calls Try.prog 5 #[.slice A len cap, .int .u8 x] w fun e w' => e = .returned (.bool true) ∧ Below w.heap.size w w' := by
  have KN := Lib.hid fun W => known15 K W
  have NL := Lib.hid hr.1
  have hl' := hl
  unfold maxLen at hl
  by_cases h2 : 20000 < len
  · have d0 : decide (20000 < (len : Int)) = true := decide_eq_true (by omega)
    clear K hr hy h0 hl' h2
    go_enter Try.func5, Try.ntmps5
    go_wp2_with fail
    refine (KN.out _).mono ?_; rintro e w8 ⟨rfl, q8⟩
    have Q8 := Lib.hid q8
    clear q8
    go_wp2_with fail
    go_ret
    exact ⟨rfl, Q8.out⟩
  have d0 : decide (20000 < (len : Int)) = false := decide_eq_false (by omega)
  have hl2 : len ≤ 20000 := by omega
  have hzc := zero_cm15
  have hzr := zero_rv15
  have TB := Lib.hid fun (W : World) (b : Below w.heap.size w W) => hr.below b
  have RC := Lib.hid fun (W : World) (b : Below w.heap.size w W) => K.rdC A len cap bs W (hr.below b) hy h0 (by omega)
  have RR := Lib.hid fun (W : World) (b : Below w.heap.size w W) => K.rdR A len cap bs W (hr.below b) hy h0 (by omega)
  have RC2 := Lib.hid fun (A' : Option Addr) (c' : Nat) (W : World) (h : RdB W A' (len + 1) (bs ++ [x])) (h1 : A' = none → len + 1 = 0 ∧ c' = 0) => K.rdC A' (len + 1) c' (bs ++ [x]) W h (hy.app (by intro y hy'; simp at hy'; omega)) h1 (by omega)
  have RR2 := Lib.hid fun (A' : Option Addr) (c' : Nat) (W : World) (h : RdB W A' (len + 1) (bs ++ [x])) (h1 : A' = none → len + 1 = 0 ∧ c' = 0) => K.rdR A' (len + 1) c' (bs ++ [x]) W h (hy.app (by intro y hy'; simp at hy'; omega)) h1 (by omega)
  have CM := Lib.hid fun (c : Cm) (ic : IsC bs c) (W : World) => (show Calls Try.prog 7 #[.agg (ECm.cells c).toArray] W fun e w' => ToldB bs 0 W.heap.size W w' e by
    have := K.cmd c W ic.1
    rw [(cm_may ic.2.1).1, (cm_may ic.2.1).2, ic.2.2] at this
    exact this)
  have RP := Lib.hid fun (v : Rv) (r : Rw) (W : World) (vo : v.ok) (vi : v.In W r) (ir : IsR bs r) => (show Calls Try.prog 15 #[.agg (ERv.cells v).toArray] W fun e w' => ToldB bs 0 W.heap.size W w' e by
    have := K.rep v r W vo vi ir.1
    rw [(rp_may ir.2.1).1, (rp_may ir.2.1).2, ir.2.2] at this
    exact this)
  have N1 := Lib.hid h0
  have HL1 : Hid ((bs ++ [x]).length = len + 1) := Lib.hid (by rw [List.length_append, NL.out]; rfl)
  clear K hr hy h0 hl' h2 hx
  go_enter Try.func5, Try.ntmps5
  go_wp2_with fail
  refine (RC.out w (Below.refl _ _)).mono ?_; rintro e w1 ⟨c, E1, rfl, h1, q1⟩
  have Z1 : Hid (ECm.Bx 30 (w1.alloc (.cells (ECm.cells zeroCm).toArray 30)) w1.heap.size zeroCm) := Lib.hid (gbx_new w1 _)
  obtain ⟨W2, hW2⟩ : ∃ W, (w1.alloc (.cells (ECm.cells zeroCm).toArray 30)).setRow w1.heap.size (ECm.cells c).toArray = W := ⟨_, rfl⟩
  obtain ⟨g2, hg2⟩ : ∃ g, w1.heap.size = g := ⟨_, rfl⟩
  have X2 : Hid (ECm.Bx 30 W2 g2 c) := Lib.hid (by rw [← hW2, ← hg2]; exact gbx_set Z1.out)
  have b2 : Below w1.heap.size w1 W2 := by rw [← hW2]; exact below_row0 (below_new _ _) (Nat.le_refl _)
  have B2 := Lib.hid (q1.trans (b2.mono q1.size))
  have HW2 := Lib.hid hW2
  have HG2 := Lib.hid hg2
  clear q1 hW2 hg2 b2
  go_wp2_with (refine rwl_store TCm c w1.heap.size Z1.out rfl rfl ?_; rw [HW2.out, HG2.out])
  refine (RR.out W2 B2.out).mono ?_; rintro e w3 ⟨v, r, E2, rfl, vo, vi, h3, q3⟩
  have Z3 : Hid (ERv.Bx 44 (w3.alloc (.cells (ERv.cells zeroRv).toArray 44)) w3.heap.size zeroRv) := Lib.hid (gbx_new w3 _)
  obtain ⟨W4, hW4⟩ : ∃ W, (w3.alloc (.cells (ERv.cells zeroRv).toArray 44)).setRow w3.heap.size (ERv.cells v).toArray = W := ⟨_, rfl⟩
  obtain ⟨g4, hg4⟩ : ∃ g, w3.heap.size = g := ⟨_, rfl⟩
  have X4 : Hid (ERv.Bx 44 W4 g4 v) := Lib.hid (by rw [← hW4, ← hg4]; exact gbx_set Z3.out)
  have b4 : Below w3.heap.size w3 W4 := by rw [← hW4]; exact below_row0 (below_new _ _) (Nat.le_refl _)
  have B4 := Lib.hid (B2.out.trans ((q3.trans (b4.mono q3.size)).mono B2.out.size))
  have XC := Lib.hid fun (W : World) (b : Below W4.heap.size W4 W) => gbx_rng (gbx_below (gbx_below X2.out (q3.trans (b4.mono q3.size))) b)
  have XR := Lib.hid fun (W : World) (b : Below W4.heap.size W4 W) => gbx_rng (gbx_below X4.out b)
  have VI := Lib.hid fun (W : World) (b : Below W4.heap.size W4 W) => (vi.below b4).below b
  have VO := Lib.hid vo
  have HW4 := Lib.hid hW4
  have HG4 := Lib.hid hg4
  have H4 := Lib.hid (Below.refl W4.heap.size W4)
  clear q3 hW4 hg4 b4 vo vi
  rcases h1 with ⟨ic, rfl⟩ | ⟨-, rfl, rfl⟩
  · have ic := Lib.hid ic
    rcases h3 with ⟨ir, rfl⟩ | ⟨-, -, rfl⟩
    · have ir := Lib.hid ir
      go_wp2_with (first | (refine rwl_store TRv v w3.heap.size Z3.out rfl rfl ?_; rw [HW4.out, HG4.out]) | ((with_reducible refine rwl_load TCm g2 0 (XC.out W4 H4.out) ?_ ?_ ?_); rfl; rfl))
      refine (CM.out c ic.out W4).mono ?_; rintro e wa1 ⟨A9, n9, c9, rfl, r9, q9, -⟩
      have Ha := Lib.hid (H4.out.trans (q9.mono H4.out.size))
      have Ba := Lib.hid (B4.out.trans (Ha.out.mono B4.out.size))
      have T9 := Lib.hid r9
      have O0 := Lib.hid (own_none wa1)
      have Q0 := Lib.hid ((Below.refl wa1.heap.size wa1).alloc (Nat.le_refl _) (.cells #[] 5))
      have TQ := Lib.hid (TB.out _ (Ba.out.trans (Q0.out.mono Ba.out.size)))
      clear r9 q9
      go_wp2_with (first
        | (at_builtin; refine wpl_append rfl (.tmp 39) (.tmp 40) rfl wa1.heap.size (.slice (some ⟨wa1.heap.size, 0, none⟩) 0 0) 0 [] rfl O0.out A len cap bs rfl TQ.out N1.out (by omega) (one_alloc _ _) ?_; intro v5 w5 o5 g5; have Q5 := Lib.hid (Q0.out.grown g5 (one_alloc _ _) (by intro k hk; simp [Value.ownBlock] at hk; omega)); rw [Nat.zero_add, List.nil_append] at o5; have O5 := Lib.hid o5; have D5 := Lib.hid (Q5.out.alloc Q5.out.size (.cells #[.int .u8 x] 5)); have P5 := Lib.hid (byte_new15 w5 x); clear o5 g5)
        | (at_builtin; refine wpl_append rfl (.tmp 41) (.tmp 43) rfl wa1.heap.size v5 len (bs.map (Value.int .u8)) rfl (O5.out.alloc _) (some ⟨w5.heap.size, 0, none⟩) 1 1 [x] rfl P5.out (fun h => by cases h) (by omega) D5.out.size ?_; intro v6 w6 o6 g6; have Q6 := Lib.hid (D5.out.grown g6 D5.out.size (fun k hk => (O5.out.lt k hk).1)); have O6 := Lib.hid (own_snoc15 NL.out o6); obtain ⟨A6, c6, rfl, r6, n6⟩ := owns_pt O6.out; rw [HL1.out] at r6 n6; have R6 := Lib.hid r6; have N6 := Lib.hid n6; clear o6 g6 r6 n6; rw [HL1.out]))
      refine (RC2.out A6 c6 w6 R6.out N6.out).mono ?_; rintro e wb1 ⟨c', E', rfl, h', q'⟩
      rcases h' with ⟨ic', -⟩ | ⟨-, rfl, rfl⟩
      · exact absurd ic' (ic.out.more x c')
      have Zb : Hid (ECm.Bx 30 (wb1.alloc (.cells (ECm.cells zeroCm).toArray 30)) wb1.heap.size zeroCm) := Lib.hid (gbx_new wb1 _)
      obtain ⟨Wc1, hWc⟩ : ∃ W, (wb1.alloc (.cells (ECm.cells zeroCm).toArray 30)).setRow wb1.heap.size (ECm.cells zeroCm).toArray = W := ⟨_, rfl⟩
      have bc : Below wb1.heap.size wb1 Wc1 := by rw [← hWc]; exact below_row0 (below_new _ _) (Nat.le_refl _)
      have qa := Q6.out.trans (q'.mono Q6.out.size)
      have qc := qa.trans (bc.mono qa.size)
      have Hc1 := Lib.hid (Ha.out.trans (qc.mono Ha.out.size))
      have Bc1 := Lib.hid (B4.out.trans (Hc1.out.mono B4.out.size))
      have k1 := conv_any (c := c9) (T9.out.below qc)
      have k2 := conv_any (c := cap) (TB.out _ Bc1.out)
      have HWc := Lib.hid hWc
      clear hWc bc qa qc q' Ha Ba T9 O0 Q0 TQ Q5 O5 D5 P5 Q6 O6 R6
      go_wp2_with (first | (refine rwl_store TCm zeroCm wb1.heap.size Zb.out rfl rfl ?_; rw [HWc.out]) | ((with_reducible refine rwl_load TRv g4 0 (XR.out Wc1 Hc1.out) ?_ ?_ ?_); rfl; rfl))
      clear k1 k2 Zb HWc
      refine (RP.out v r Wc1 VO.out (VI.out Wc1 Hc1.out) ir.out).mono ?_; rintro e wa2 ⟨A9, n9, c9, rfl, r9, q9, -⟩
      have Ha := Lib.hid (Hc1.out.trans (q9.mono Hc1.out.size))
      have Ba := Lib.hid (B4.out.trans (Ha.out.mono B4.out.size))
      have T9 := Lib.hid r9
      have O0 := Lib.hid (own_none wa2)
      have Q0 := Lib.hid ((Below.refl wa2.heap.size wa2).alloc (Nat.le_refl _) (.cells #[] 5))
      have TQ := Lib.hid (TB.out _ (Ba.out.trans (Q0.out.mono Ba.out.size)))
      clear r9 q9
      go_wp2_with (first
        | (at_builtin; refine wpl_append rfl (.tmp 69) (.tmp 70) rfl wa2.heap.size (.slice (some ⟨wa2.heap.size, 0, none⟩) 0 0) 0 [] rfl O0.out A len cap bs rfl TQ.out N1.out (by omega) (one_alloc _ _) ?_; intro v5 w5 o5 g5; have Q5 := Lib.hid (Q0.out.grown g5 (one_alloc _ _) (by intro k hk; simp [Value.ownBlock] at hk; omega)); rw [Nat.zero_add, List.nil_append] at o5; have O5 := Lib.hid o5; have D5 := Lib.hid (Q5.out.alloc Q5.out.size (.cells #[.int .u8 x] 5)); have P5 := Lib.hid (byte_new15 w5 x); clear o5 g5)
        | (at_builtin; refine wpl_append rfl (.tmp 71) (.tmp 73) rfl wa2.heap.size v5 len (bs.map (Value.int .u8)) rfl (O5.out.alloc _) (some ⟨w5.heap.size, 0, none⟩) 1 1 [x] rfl P5.out (fun h => by cases h) (by omega) D5.out.size ?_; intro v6 w6 o6 g6; have Q6 := Lib.hid (D5.out.grown g6 D5.out.size (fun k hk => (O5.out.lt k hk).1)); have O6 := Lib.hid (own_snoc15 NL.out o6); obtain ⟨A6, c6, rfl, r6, n6⟩ := owns_pt O6.out; rw [HL1.out] at r6 n6; have R6 := Lib.hid r6; have N6 := Lib.hid n6; clear o6 g6 r6 n6; rw [HL1.out]))
      refine (RR2.out A6 c6 w6 R6.out N6.out).mono ?_; rintro e wb2 ⟨v', r', E', rfl, -, -, h', q'⟩
      rcases h' with ⟨ir', -⟩ | ⟨-, -, rfl⟩
      · exact absurd ir' (ir.out.more x r')
      have Zb : Hid (ERv.Bx 44 (wb2.alloc (.cells (ERv.cells zeroRv).toArray 44)) wb2.heap.size zeroRv) := Lib.hid (gbx_new wb2 _)
      obtain ⟨Wc2, hWc⟩ : ∃ W, (wb2.alloc (.cells (ERv.cells zeroRv).toArray 44)).setRow wb2.heap.size (ERv.cells v').toArray = W := ⟨_, rfl⟩
      have bc : Below wb2.heap.size wb2 Wc2 := by rw [← hWc]; exact below_row0 (below_new _ _) (Nat.le_refl _)
      have qa := Q6.out.trans (q'.mono Q6.out.size)
      have qc := qa.trans (bc.mono qa.size)
      have Hc2 := Lib.hid (Ha.out.trans (qc.mono Ha.out.size))
      have Bc2 := Lib.hid (B4.out.trans (Hc2.out.mono B4.out.size))
      have k1 := conv_any (c := c9) (T9.out.below qc)
      have k2 := conv_any (c := cap) (TB.out _ Bc2.out)
      have HWc := Lib.hid hWc
      clear hWc bc qa qc q' Ha Ba T9 O0 Q0 TQ Q5 O5 D5 P5 Q6 O6 R6
      go_wp2_with (first | (refine rwl_store TRv v' wb2.heap.size Zb.out rfl rfl ?_; rw [HWc.out]))
      clear k1 k2 Zb HWc
      refine (KN.out _).mono ?_; rintro e w8 ⟨rfl, q8⟩
      have Q8 := Lib.hid (Bc2.out.trans (q8.mono Bc2.out.size))
      clear q8
      go_wp2_with fail
      go_ret
      exact ⟨rfl, Q8.out⟩
    · skip
      go_wp2_with (first | (refine rwl_store TRv v w3.heap.size Z3.out rfl rfl ?_; rw [HW4.out, HG4.out]) | ((with_reducible refine rwl_load TCm g2 0 (XC.out W4 H4.out) ?_ ?_ ?_); rfl; rfl))
      refine (CM.out c ic.out W4).mono ?_; rintro e wa3 ⟨A9, n9, c9, rfl, r9, q9, -⟩
      have Ha := Lib.hid (H4.out.trans (q9.mono H4.out.size))
      have Ba := Lib.hid (B4.out.trans (Ha.out.mono B4.out.size))
      have T9 := Lib.hid r9
      have O0 := Lib.hid (own_none wa3)
      have Q0 := Lib.hid ((Below.refl wa3.heap.size wa3).alloc (Nat.le_refl _) (.cells #[] 5))
      have TQ := Lib.hid (TB.out _ (Ba.out.trans (Q0.out.mono Ba.out.size)))
      clear r9 q9
      go_wp2_with (first
        | (at_builtin; refine wpl_append rfl (.tmp 39) (.tmp 40) rfl wa3.heap.size (.slice (some ⟨wa3.heap.size, 0, none⟩) 0 0) 0 [] rfl O0.out A len cap bs rfl TQ.out N1.out (by omega) (one_alloc _ _) ?_; intro v5 w5 o5 g5; have Q5 := Lib.hid (Q0.out.grown g5 (one_alloc _ _) (by intro k hk; simp [Value.ownBlock] at hk; omega)); rw [Nat.zero_add, List.nil_append] at o5; have O5 := Lib.hid o5; have D5 := Lib.hid (Q5.out.alloc Q5.out.size (.cells #[.int .u8 x] 5)); have P5 := Lib.hid (byte_new15 w5 x); clear o5 g5)
        | (at_builtin; refine wpl_append rfl (.tmp 41) (.tmp 43) rfl wa3.heap.size v5 len (bs.map (Value.int .u8)) rfl (O5.out.alloc _) (some ⟨w5.heap.size, 0, none⟩) 1 1 [x] rfl P5.out (fun h => by cases h) (by omega) D5.out.size ?_; intro v6 w6 o6 g6; have Q6 := Lib.hid (D5.out.grown g6 D5.out.size (fun k hk => (O5.out.lt k hk).1)); have O6 := Lib.hid (own_snoc15 NL.out o6); obtain ⟨A6, c6, rfl, r6, n6⟩ := owns_pt O6.out; rw [HL1.out] at r6 n6; have R6 := Lib.hid r6; have N6 := Lib.hid n6; clear o6 g6 r6 n6; rw [HL1.out]))
      refine (RC2.out A6 c6 w6 R6.out N6.out).mono ?_; rintro e wb3 ⟨c', E', rfl, h', q'⟩
      rcases h' with ⟨ic', -⟩ | ⟨-, rfl, rfl⟩
      · exact absurd ic' (ic.out.more x c')
      have Zb : Hid (ECm.Bx 30 (wb3.alloc (.cells (ECm.cells zeroCm).toArray 30)) wb3.heap.size zeroCm) := Lib.hid (gbx_new wb3 _)
      obtain ⟨Wc3, hWc⟩ : ∃ W, (wb3.alloc (.cells (ECm.cells zeroCm).toArray 30)).setRow wb3.heap.size (ECm.cells zeroCm).toArray = W := ⟨_, rfl⟩
      have bc : Below wb3.heap.size wb3 Wc3 := by rw [← hWc]; exact below_row0 (below_new _ _) (Nat.le_refl _)
      have qa := Q6.out.trans (q'.mono Q6.out.size)
      have qc := qa.trans (bc.mono qa.size)
      have Hc3 := Lib.hid (Ha.out.trans (qc.mono Ha.out.size))
      have Bc3 := Lib.hid (B4.out.trans (Hc3.out.mono B4.out.size))
      have k1 := conv_any (c := c9) (T9.out.below qc)
      have k2 := conv_any (c := cap) (TB.out _ Bc3.out)
      have HWc := Lib.hid hWc
      clear hWc bc qa qc q' Ha Ba T9 O0 Q0 TQ Q5 O5 D5 P5 Q6 O6 R6
      go_wp2_with (first | (refine rwl_store TCm zeroCm wb3.heap.size Zb.out rfl rfl ?_; rw [HWc.out]))
      clear k1 k2 Zb HWc
      refine (KN.out _).mono ?_; rintro e w8 ⟨rfl, q8⟩
      have Q8 := Lib.hid (Bc3.out.trans (q8.mono Bc3.out.size))
      clear q8
      go_wp2_with fail
      go_ret
      exact ⟨rfl, Q8.out⟩
  · rcases h3 with ⟨ir, rfl⟩ | ⟨-, -, rfl⟩
    · have ir := Lib.hid ir
      go_wp2_with (first | (refine rwl_store TRv v w3.heap.size Z3.out rfl rfl ?_; rw [HW4.out, HG4.out]) | ((with_reducible refine rwl_load TRv g4 0 (XR.out W4 H4.out) ?_ ?_ ?_); rfl; rfl))
      refine (RP.out v r W4 VO.out (VI.out W4 H4.out) ir.out).mono ?_; rintro e wa4 ⟨A9, n9, c9, rfl, r9, q9, -⟩
      have Ha := Lib.hid (H4.out.trans (q9.mono H4.out.size))
      have Ba := Lib.hid (B4.out.trans (Ha.out.mono B4.out.size))
      have T9 := Lib.hid r9
      have O0 := Lib.hid (own_none wa4)
      have Q0 := Lib.hid ((Below.refl wa4.heap.size wa4).alloc (Nat.le_refl _) (.cells #[] 5))
      have TQ := Lib.hid (TB.out _ (Ba.out.trans (Q0.out.mono Ba.out.size)))
      clear r9 q9
      go_wp2_with (first
        | (at_builtin; refine wpl_append rfl (.tmp 69) (.tmp 70) rfl wa4.heap.size (.slice (some ⟨wa4.heap.size, 0, none⟩) 0 0) 0 [] rfl O0.out A len cap bs rfl TQ.out N1.out (by omega) (one_alloc _ _) ?_; intro v5 w5 o5 g5; have Q5 := Lib.hid (Q0.out.grown g5 (one_alloc _ _) (by intro k hk; simp [Value.ownBlock] at hk; omega)); rw [Nat.zero_add, List.nil_append] at o5; have O5 := Lib.hid o5; have D5 := Lib.hid (Q5.out.alloc Q5.out.size (.cells #[.int .u8 x] 5)); have P5 := Lib.hid (byte_new15 w5 x); clear o5 g5)
        | (at_builtin; refine wpl_append rfl (.tmp 71) (.tmp 73) rfl wa4.heap.size v5 len (bs.map (Value.int .u8)) rfl (O5.out.alloc _) (some ⟨w5.heap.size, 0, none⟩) 1 1 [x] rfl P5.out (fun h => by cases h) (by omega) D5.out.size ?_; intro v6 w6 o6 g6; have Q6 := Lib.hid (D5.out.grown g6 D5.out.size (fun k hk => (O5.out.lt k hk).1)); have O6 := Lib.hid (own_snoc15 NL.out o6); obtain ⟨A6, c6, rfl, r6, n6⟩ := owns_pt O6.out; rw [HL1.out] at r6 n6; have R6 := Lib.hid r6; have N6 := Lib.hid n6; clear o6 g6 r6 n6; rw [HL1.out]))
      refine (RR2.out A6 c6 w6 R6.out N6.out).mono ?_; rintro e wb4 ⟨v', r', E', rfl, -, -, h', q'⟩
      rcases h' with ⟨ir', -⟩ | ⟨-, -, rfl⟩
      · exact absurd ir' (ir.out.more x r')
      have Zb : Hid (ERv.Bx 44 (wb4.alloc (.cells (ERv.cells zeroRv).toArray 44)) wb4.heap.size zeroRv) := Lib.hid (gbx_new wb4 _)
      obtain ⟨Wc4, hWc⟩ : ∃ W, (wb4.alloc (.cells (ERv.cells zeroRv).toArray 44)).setRow wb4.heap.size (ERv.cells v').toArray = W := ⟨_, rfl⟩
      have bc : Below wb4.heap.size wb4 Wc4 := by rw [← hWc]; exact below_row0 (below_new _ _) (Nat.le_refl _)
      have qa := Q6.out.trans (q'.mono Q6.out.size)
      have qc := qa.trans (bc.mono qa.size)
      have Hc4 := Lib.hid (Ha.out.trans (qc.mono Ha.out.size))
      have Bc4 := Lib.hid (B4.out.trans (Hc4.out.mono B4.out.size))
      have k1 := conv_any (c := c9) (T9.out.below qc)
      have k2 := conv_any (c := cap) (TB.out _ Bc4.out)
      have HWc := Lib.hid hWc
      clear hWc bc qa qc q' Ha Ba T9 O0 Q0 TQ Q5 O5 D5 P5 Q6 O6 R6
      go_wp2_with (first | (refine rwl_store TRv v' wb4.heap.size Zb.out rfl rfl ?_; rw [HWc.out]))
      clear k1 k2 Zb HWc
      refine (KN.out _).mono ?_; rintro e w8 ⟨rfl, q8⟩
      have Q8 := Lib.hid (Bc4.out.trans (q8.mono Bc4.out.size))
      clear q8
      go_wp2_with fail
      go_ret
      exact ⟨rfl, Q8.out⟩
    · skip
      go_wp2_with (first | (refine rwl_store TRv v w3.heap.size Z3.out rfl rfl ?_; rw [HW4.out, HG4.out]))
      refine (KN.out _).mono ?_; rintro e w8 ⟨rfl, q8⟩
      have Q8 := Lib.hid (B4.out.trans (q8.mono B4.out.size))
      clear q8
      go_wp2_with fail
      go_ret
      exact ⟨rfl, Q8.out⟩
end Go.Proofs.Ytbmlpokkojhhjaa
