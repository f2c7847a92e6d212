/- A stake's worst case: the document's. -/
import Derived.Test.YtcpcnjiphiokjaaExe
namespace Go.Proofs.Ytcpcnjiphiokjaa
open Go.RowKit Go.Shelf
set_option linter.unusedVariables false
set_option linter.unusedSimpArgs false

set_option maxRecDepth 100000 in
set_option maxHeartbeats 8000000 in
theorem rworst11 (x : Sk) (w : World) (hb : stkB x = true) (hin : x.In w) : Calls Try.prog 22 #[.agg (EK.cells x).toArray] w fun e w' => e = .returned (.int .i64 (wsK x)) ∧ Below w.heap.size w w' := by
  have hz := zero_o11
  obtain ⟨W1, hW1⟩ : ∃ W1, w.alloc (.cells (EK.cells x).toArray 33) = W1 := ⟨_, rfl⟩
  have x1 : EK.Bx 33 W1 w.heap.size x := by rw [← hW1]; exact gbx_new w x
  have b1 : Below w.heap.size w W1 := by rw [← hW1]; exact below_new w _
  have HX := Lib.hid fun (w2 : World) (q : Below W1.heap.size W1 w2) => (show EK.Bx 33 w2 w.heap.size x from gbx_below x1 q)
  have HR := Lib.hid fun (w2 : World) (q : Below W1.heap.size W1 w2) => (show EO.Rd w2 x.A x.n x.os from grd_below (grd_below hin b1 (Nat.le_refl _)) q (Nat.le_refl _))
  have k25 := bk_q x1
  have HL := Lib.hid hin.1
  have HK := Lib.hid (stkB_iff.1 hb).2.2.2.2
  have HB := Lib.hid (part_bd (stkB_iff.1 hb).2.2.2.1 (stkB_iff.1 hb).2.2.2.2 (stk_pr hb))
  have hp := stk_pr hb
  have hn : x.n ≤ 250 := by rw [← hin.1]; exact (stkB_iff.1 hb).2.2.2.1
  have B1 := Lib.hid b1
  have HW := Lib.hid hW1
  have hq := (stkB_iff.1 hb).2.1
  have SH := Lib.hid (legB_sh (stk_leg hb))
  have SC := Lib.hid fun (q : Int) (w2 : World) (hq : -1000000000 ≤ q ∧ q ≤ 1000000000) => rworst10 x.lg.sp.sh q w2 x.lg.len SH.out hq
  have M := Lib.hid fun q (hq : -1000000000 ≤ q ∧ q ≤ 1000000000) => (show 0 ≤ wst x.lg.sp.sh q ∧ wst x.lg.sp.sh q ≤ 10000000000000000 from ⟨wst_pos _ _, wst_max (M := 1000000000) SH.out hq⟩)
  have LN := Lib.hid x.lg.len
  have E0 : Hid (wsK x = max (max (wst x.lg.sp.sh (x.lg.q + sumO buK x.os)) (wst x.lg.sp.sh (x.lg.q - sumO seK x.os)) - wst x.lg.sp.sh x.lg.q) 0 + sumO (ovK x.pr) x.os) := Lib.hid rfl
  rw [E0.out]
  clear E0
  obtain ⟨⟨sp, q, ln⟩, ba, p, A, n, c, os⟩ := x
  dsimp only at *
  obtain ⟨p1, p2⟩ := hp
  obtain ⟨q1, q2⟩ := hq
  obtain ⟨res, hres⟩ : ∃ r, max (max (wst sp.sh (q + sumO buK os)) (wst sp.sh (q - sumO seK os)) - wst sp.sh q) 0 + sumO (ovK p) os = r := ⟨_, rfl⟩
  rw [hres]
  have RES := Lib.hid hres
  clear x1 b1 hW1 hb hin SH hres
  go_enter Try.func22, Try.ntmps22
  go_wp2_with (rw [HW.out])
  go_loopw [3, 4, 5, 6] (fun up dn pr i wr => ∃ (k : Nat) (B S V : Int), k ≤ n ∧ i = .int .i64 k ∧ up = .int .i64 (q + B) ∧ dn = .int .i64 (q - S) ∧ pr = .int .i64 V ∧ B = sumO buK (os.take k) ∧ S = sumO seK (os.take k) ∧ V = sumO (ovK p) (os.take k) ∧ Below W1.heap.size W1 wr) (fun _ _ _ i _ => n - (intOf i).toNat)
  case atStart => exact ⟨0, 0, 0, 0, Nat.zero_le _, rfl, by rw [Int.add_zero], by rw [Int.sub_zero], rfl, rfl, rfl, rfl, Below.refl _ _⟩
  case round =>
    obtain ⟨k, B, S, V, hk, rfl, rfl, rfl, rfl, hB, hS, hV, hb⟩ := hrel
    have BB := Lib.hid hb
    have k28 := bk_os (HX.out wr hb)
    have PB := HB.out k
    rw [← hB, ← hS, ← hV] at PB
    have EB := Lib.hid hB
    have ES := Lib.hid hS
    have EV := Lib.hid hV
    obtain ⟨⟨i1, i2⟩, ⟨i3, i4⟩, i5, i6⟩ := PB
    clear hB hS hV hb
    by_cases hlt : k < n
    case neg =>
      obtain rfl : k = n := by omega
      have T : Hid (os.take k = os) := Lib.hid (List.take_of_length_le (by rw [HL.out]; exact Nat.le_refl _))
      have EB2 := Lib.hid (EB.out.trans (by rw [T.out]))
      have ES2 := Lib.hid (ES.out.trans (by rw [T.out]))
      have EV2 := Lib.hid (EV.out.trans (by rw [T.out]))
      have AR := Lib.hid fun (w2 : World) (h : Below wr.heap.size wr w2) => (show w2.rangeAt w.heap.size 6 (sp.sh.map (Value.int .i64)) from bk_arr (HX.out w2 (BB.out.trans (h.mono BB.out.size))))
      have C1 := Lib.hid fun w2 => SC.out (q + B) w2 (by omega)
      have C2 := Lib.hid fun w2 => SC.out (q - S) w2 (by omega)
      have C3 := Lib.hid fun w2 => SC.out q w2 (by omega)
      have m1 := M.out (q + B) (by omega)
      have m2 := M.out (q - S) (by omega)
      have m3 := M.out q (by omega)
      have k25' := bk_q (HX.out wr BB.out)
      have AR0 := Lib.hid (AR.out wr (Below.refl _ _))
      have RES2 := RES.out
      rw [← EB2.out, ← ES2.out, ← EV2.out] at RES2
      clear EB2 ES2 EV2 EB ES EV M SC k25
      obtain ⟨r1, h1⟩ : ∃ r, wst sp.sh (q + B) = r := ⟨_, rfl⟩
      obtain ⟨r2, h2⟩ : ∃ r, wst sp.sh (q - S) = r := ⟨_, rfl⟩
      obtain ⟨r3, h3⟩ : ∃ r, wst sp.sh q = r := ⟨_, rfl⟩
      rw [h1] at C1 m1
      rw [h2] at C2 m2
      rw [h3] at C3 m3
      rw [h1, h2, h3] at RES2
      have RES3 := Lib.hid RES2
      clear RES2
      obtain ⟨m4, m5⟩ := m1
      obtain ⟨m6, m7⟩ := m2
      obtain ⟨m8, m9⟩ := m3
      clear h1 h2 h3
      go_wp2_with ((with_reducible refine wl_arr10 LN.out w.heap.size 6 AR0.out ?_ ?_ ?_); rfl; rfl)
      refine (C3.out _).mono ?_; rintro e w3 ⟨rfl, g3⟩
      have A3 := Lib.hid (AR.out _ g3)
      have G3 := Lib.hid g3
      clear g3 k25' k28
      go_wp2_with ((with_reducible refine wl_arr10 LN.out w.heap.size 6 A3.out ?_ ?_ ?_); rfl; rfl)
      refine (C1.out _).mono ?_; rintro e w4 ⟨rfl, g4⟩
      have G4 := Lib.hid (G3.out.trans (g4.mono G3.out.size))
      have A4 := Lib.hid (AR.out _ G4.out)
      clear g4
      go_wp2_with ((with_reducible refine wl_arr10 LN.out w.heap.size 6 A4.out ?_ ?_ ?_); rfl; rfl)
      refine (C2.out _).mono ?_; rintro e w5 ⟨rfl, g5⟩
      have G5 := Lib.hid (B1.out.trans ((BB.out.trans ((G4.out.trans (g5.mono G4.out.size)).mono BB.out.size)).mono B1.out.size))
      clear g5
      by_cases c1 : r1 < r2
      · have d1 : decide (r1 < r2) = true := decide_eq_true c1
        by_cases c2 : r3 < r2
        · have d2 : decide (r3 < r2) = true := decide_eq_true c2
          have E : Hid (V + r2 - r3 = res) := Lib.hid (by have := RES3.out; omega)
          go_wp2_with fail
          go_ret
          rw [← E.out]
          exact ⟨rfl, G5.out⟩
        · have d2 : decide (r3 < r2) = false := decide_eq_false c2
          have E : Hid (V = res) := Lib.hid (by have := RES3.out; omega)
          go_wp2_with fail
          go_ret
          rw [← E.out]
          exact ⟨rfl, G5.out⟩
      · have d1 : decide (r1 < r2) = false := decide_eq_false c1
        by_cases c2 : r3 < r1
        · have d2 : decide (r3 < r1) = true := decide_eq_true c2
          have E : Hid (V + r1 - r3 = res) := Lib.hid (by have := RES3.out; omega)
          go_wp2_with fail
          go_ret
          rw [← E.out]
          exact ⟨rfl, G5.out⟩
        · have d2 : decide (r3 < r1) = false := decide_eq_false c2
          have E : Hid (V = res) := Lib.hid (by have := RES3.out; omega)
          go_wp2_with fail
          go_ret
          rw [← E.out]
          exact ⟨rfl, G5.out⟩
    case pos =>
      have hdk : decide ((k : Int) < n) = true := decide_eq_true (by omega)
      have hki : (k : Int) < (n : Int) := by omega
      obtain ⟨o, ho⟩ : ∃ o, os[k]? = some o := ⟨os[k]'(by have := HL.out; omega), List.getElem?_eq_getElem _⟩
      have may := HK.out o (List.mem_of_getElem? ho)
      have obd := ovK_bd (p := p) may ⟨p1, p2⟩
      obtain ⟨_, _, ⟨m1, m2⟩, m3, m4⟩ := mayO_iff.1 may
      obtain ⟨bb, oo, rfl, rg⟩ := grd_rng (HR.out _ BB.out) ho
      have RG : Hid (wr.rangeAt bb (oo + k * 5) (EO.cells o)) := Lib.hid rg
      have TK' := Lib.hid (take_g ho)
      have X1 := Lib.hid (gbx_new (E := EO) (te := 41) wr zeroOr)
      obtain ⟨W2, hW2⟩ : ∃ W2, (wr.alloc (.cells (EO.cells zeroOr).toArray 41)).setRow wr.heap.size (EO.cells o).toArray = W2 := ⟨_, rfl⟩
      have x2 : EO.Bx 41 W2 wr.heap.size o := by rw [← hW2]; exact gbx_set X1.out
      have B2 : Hid (Below wr.heap.size wr W2) := Lib.hid (by rw [← hW2]; exact below_row0 (below_new _ _) (Nat.le_refl _))
      have B3 := Lib.hid (BB.out.trans (B2.out.mono BB.out.size))
      have c2 := bo_at x2 2 rfl
      have c3 := bo_at x2 3 rfl
      have c4 := bo_at x2 4 rfl
      have c27 := bk_pr (HX.out W2 B3.out)
      have HW2 := Lib.hid hW2
      clear rg x2 hW2 ho may k25
      obtain ⟨o1, o2⟩ := obd
      cases hbu : o.bu
      · obtain ⟨e1, e2, e3⟩ := bu_f hbu p
        have E1 : Hid (B = sumO buK (os.take (k + 1))) := Lib.hid (by rw [TK'.out, sumO_snoc, e1, ← EB.out]; omega)
        have E2 : Hid (S + o.le = sumO seK (os.take (k + 1))) := Lib.hid (by rw [TK'.out, sumO_snoc, e2, ← ES.out])
        have E3 : Hid (V + max (p - o.pr) 0 * o.le = sumO (ovK p) (os.take (k + 1))) := Lib.hid (by rw [TK'.out, sumO_snoc, e3, ← EV.out])
        rw [e3] at o1 o2
        rw [hbu] at c2
        clear e1 e2 e3 hbu
        by_cases cw : 0 < p - o.pr
        · have dw : decide (0 < p - o.pr) = true := decide_eq_true cw
          rw [Int.max_eq_left (by omega)] at o1 o2 E3
          have z1 : -9223372036854775808 ≤ (p - o.pr) * o.le := by omega
          have z2 : (p - o.pr) * o.le ≤ 9223372036854775807 := by omega
          have z3 : -9223372036854775808 ≤ V + (p - o.pr) * o.le := by omega
          have z4 : V + (p - o.pr) * o.le ≤ 9223372036854775807 := by omega
          go_wp2_with (first | ((with_reducible refine gwl_load TO bb (oo + k * 5) RG.out ?_ ?_ ?_); rfl; rfl) | (refine gwl_store TO o wr.heap.size X1.out rfl rfl ?_; rw [HW2.out]))
          go_roundw
          case rel => exact ⟨k + 1, B, S + o.le, _, hlt, by go_num, rfl, by rw [Int.sub_sub], rfl, E1.out, E2.out, E3.out, B3.out⟩
          case measure => simp [intOf]; omega
        · have dw : decide (0 < p - o.pr) = false := decide_eq_false cw
          have dw2 : p - o.pr ≤ 0 := by omega
          rw [Int.max_eq_right (by omega), Int.zero_mul, Int.add_zero] at E3
          clear o1 o2
          go_wp2_with (first | ((with_reducible refine gwl_load TO bb (oo + k * 5) RG.out ?_ ?_ ?_); rfl; rfl) | (refine gwl_store TO o wr.heap.size X1.out rfl rfl ?_; rw [HW2.out]))
          go_roundw
          case rel => exact ⟨k + 1, B, S + o.le, _, hlt, by go_num, rfl, by rw [Int.sub_sub], rfl, E1.out, E2.out, E3.out, B3.out⟩
          case measure => simp [intOf]; omega
      · obtain ⟨e1, e2, e3⟩ := bu_t hbu p
        have E1 : Hid (B + o.le = sumO buK (os.take (k + 1))) := Lib.hid (by rw [TK'.out, sumO_snoc, e1, ← EB.out])
        have E2 : Hid (S = sumO seK (os.take (k + 1))) := Lib.hid (by rw [TK'.out, sumO_snoc, e2, ← ES.out]; omega)
        have E3 : Hid (V + max (o.pr - p) 0 * o.le = sumO (ovK p) (os.take (k + 1))) := Lib.hid (by rw [TK'.out, sumO_snoc, e3, ← EV.out])
        rw [e3] at o1 o2
        rw [hbu] at c2
        clear e1 e2 e3 hbu
        by_cases cw : 0 < -(p - o.pr)
        · have dw : decide (0 < -(p - o.pr)) = true := decide_eq_true cw
          rw [show max (o.pr - p) 0 = -(p - o.pr) by omega] at o1 o2 E3
          have z1 : -9223372036854775808 ≤ -(p - o.pr) * o.le := by omega
          have z2 : -(p - o.pr) * o.le ≤ 9223372036854775807 := by omega
          have z3 : -9223372036854775808 ≤ V + -(p - o.pr) * o.le := by omega
          have z4 : V + -(p - o.pr) * o.le ≤ 9223372036854775807 := by omega
          go_wp2_with (first | ((with_reducible refine gwl_load TO bb (oo + k * 5) RG.out ?_ ?_ ?_); rfl; rfl) | (refine gwl_store TO o wr.heap.size X1.out rfl rfl ?_; rw [HW2.out]))
          go_roundw
          case rel => exact ⟨k + 1, B + o.le, S, _, hlt, by go_num, by rw [Int.add_assoc], rfl, rfl, E1.out, E2.out, E3.out, B3.out⟩
          case measure => simp [intOf]; omega
        · have dw : decide (0 < -(p - o.pr)) = false := decide_eq_false cw
          rw [show max (o.pr - p) 0 = 0 by omega, Int.zero_mul, Int.add_zero] at E3
          clear o1 o2
          go_wp2_with (first | ((with_reducible refine gwl_load TO bb (oo + k * 5) RG.out ?_ ?_ ?_); rfl; rfl) | (refine gwl_store TO o wr.heap.size X1.out rfl rfl ?_; rw [HW2.out]))
          go_roundw
          case rel => exact ⟨k + 1, B + o.le, S, _, hlt, by go_num, by rw [Int.add_assoc], rfl, rfl, E1.out, E2.out, E3.out, B3.out⟩
          case measure => simp [intOf]; omega
end Go.Proofs.Ytcpcnjiphiokjaa
