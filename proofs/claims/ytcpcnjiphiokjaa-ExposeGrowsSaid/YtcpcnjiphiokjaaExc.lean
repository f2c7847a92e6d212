/- A stake's worst case: the program's (open, scanned, worst). -/
import Derived.Test.YtcpcnjiphiokjaaExb
namespace Go.Proofs.Ytcpcnjiphiokjaa
open Go.RowKit Go.Shelf
set_option linter.unusedVariables false
set_option linter.unusedSimpArgs false

theorem zero_o11 (w : World) : (zeroValue 41).run Try.prog w = .ok (.agg (EO.cells zeroOr).toArray) w := by kernel_rfl
theorem bo_at {te : TypeId} {w : World} {g : Nat} {x : Or} (h : EO.Bx te w g x) (j : Nat) {v : Value} (hj : (EO.cells x)[j]? = some v) : w.cell? ⟨g, j, none⟩ = some v := by rw [gbx_cell h, hj]
theorem take_g {α : Type} {l : List α} {k : Nat} {x : α} (h : l[k]? = some x) : l.take (k + 1) = l.take k ++ [x] := by
  obtain ⟨hk, e⟩ := List.getElem?_eq_some_iff.1 h
  rw [List.take_succ_eq_append_getElem hk, e]
theorem bu_t {o : Or} (h : o.bu = true) (p : Int) : buK o = o.le ∧ seK o = 0 ∧ ovK p o = max (o.pr - p) 0 * o.le := by
  unfold ovK buK seK wrK
  rw [h]
  exact ⟨rfl, rfl, rfl⟩
theorem bu_f {o : Or} (h : o.bu = false) (p : Int) : buK o = 0 ∧ seK o = o.le ∧ ovK p o = max (p - o.pr) 0 * o.le := by
  unfold ovK buK seK wrK
  rw [h]
  exact ⟨rfl, rfl, rfl⟩
theorem part_bd {l : List Or} {p : Int} (hl : l.length ≤ 250) (h : ∀ o, o ∈ l → mayO o = true) (hp : 1 ≤ p ∧ p ≤ 10000000) (k : Nat) :
    (0 ≤ sumO buK (l.take k) ∧ sumO buK (l.take k) ≤ 250000000) ∧ (0 ≤ sumO seK (l.take k) ∧ sumO seK (l.take k) ≤ 250000000) ∧ 0 ≤ sumO (ovK p) (l.take k) ∧ sumO (ovK p) (l.take k) ≤ 2500000000000000 := by
  have hl2 : (l.take k).length ≤ 250 := by rw [List.length_take]; omega
  have h2 : ∀ o, o ∈ l.take k → mayO o = true := fun o ho => h o (List.mem_of_mem_take ho)
  have a := sumO_250 (f := buK) (B := 1000000) hl2 (by omega) fun o ho => buK_bd (h2 o ho)
  have b := sumO_250 (f := seK) (B := 1000000) hl2 (by omega) fun o ho => seK_bd (h2 o ho)
  have c := sumO_250 (f := ovK p) (B := 10000000000000) hl2 (by omega) fun o ho => ovK_bd (h2 o ho) hp
  omega
set_option maxRecDepth 100000 in
set_option maxHeartbeats 4000000 in
theorem open11 (x : Sk) (w : World) (hb : stkB x = true) (hin : x.In w) : Calls Try.prog 38 #[.agg (EK.cells x).toArray] w fun e w' => e = .returned (.tuple #[.int .i64 (bK x), .int .i64 (sK x), .int .i64 (oK x)]) ∧ Below w.heap.size w w' := by
  have hz := zero_o11
  obtain ⟨W1, hW1⟩ : ∃ W1, w.alloc (.cells (EK.cells x).toArray 33) = W1 := ⟨_, rfl⟩
  have x1 : EK.Bx 33 W1 w.heap.size x := by rw [← hW1]; exact gbx_new w x
  have b1 : Below w.heap.size w W1 := by rw [← hW1]; exact below_new w _
  have l1 : w.heap.size < W1.heap.size := (Array.getElem?_eq_some_iff.1 x1).1
  have HR := Lib.hid fun (w2 : World) (q : Below W1.heap.size W1 w2) => (show EO.Rd w2 x.A x.n x.os from grd_below (grd_below hin b1 (Nat.le_refl _)) q (Nat.le_refl _))
  have HP := Lib.hid fun (w2 : World) (q : Below W1.heap.size W1 w2) => (show w2.cell? ⟨w.heap.size, 27, none⟩ = some (.int .i64 x.pr) from bk_pr (gbx_below x1 q))
  have k28 := bk_os x1
  have HL := Lib.hid hin.1
  have HK := Lib.hid (stkB_iff.1 hb).2.2.2.2
  have HB := Lib.hid (part_bd (stkB_iff.1 hb).2.2.2.1 (stkB_iff.1 hb).2.2.2.2 (stk_pr hb))
  have hp := stk_pr hb
  have hn : x.n ≤ 250 := by rw [← hin.1]; exact (stkB_iff.1 hb).2.2.2.1
  have B1 := Lib.hid b1
  have L1 := Lib.hid l1
  have HW := Lib.hid hW1
  unfold bK sK oK
  obtain ⟨lg, ba, p, A, n, c, os⟩ := x
  dsimp only at *
  obtain ⟨p1, p2⟩ := hp
  clear x1 b1 hW1 hb hin l1
  go_enter Try.func38, Try.ntmps38
  go_wp2_with (rw [HW.out])
  go_loopw [2, 3, 4, 10] (fun b s v i wr => ∃ (k : Nat) (B S V : Int), k ≤ n ∧ i = .int .i64 k ∧ b = .int .i64 B ∧ s = .int .i64 S ∧ v = .int .i64 V ∧ B = sumO buK (os.take k) ∧ S = sumO seK (os.take k) ∧ V = sumO (ovK p) (os.take k) ∧ Below W1.heap.size W1 wr) (fun _ _ _ i _ => n - (intOf i).toNat)
  case atStart => exact ⟨0, 0, 0, 0, Nat.zero_le _, rfl, rfl, rfl, rfl, rfl, rfl, rfl, Below.refl _ _⟩
  case round =>
    obtain ⟨k, B, S, V, hk, rfl, rfl, rfl, rfl, hB, hS, hV, hb⟩ := hrel
    have BB := Lib.hid hb
    have PB := HB.out k
    rw [← hB, ← hS, ← hV] at PB
    have EB := Lib.hid hB
    have ES := Lib.hid hS
    have EV := Lib.hid hV
    obtain ⟨⟨i1, i2⟩, ⟨i3, i4⟩, i5, i6⟩ := PB
    clear hB hS hV hb
    by_cases hlt : k < n
    case neg =>
      obtain rfl : k = n := by omega
      have T : Hid (os.take k = os) := Lib.hid (List.take_of_length_le (by rw [HL.out]; exact Nat.le_refl _))
      have EB2 := Lib.hid (EB.out.trans (by rw [T.out]))
      have ES2 := Lib.hid (ES.out.trans (by rw [T.out]))
      have EV2 := Lib.hid (EV.out.trans (by rw [T.out]))
      go_wp2_with fail
      go_ret3
      rw [EB2.out, ES2.out, EV2.out]
      exact ⟨rfl, B1.out.trans (BB.out.mono B1.out.size)⟩
    case pos =>
      have hdk : decide ((k : Int) < n) = true := decide_eq_true (by omega)
      have hki : (k : Int) < (n : Int) := by omega
      obtain ⟨o, ho⟩ : ∃ o, os[k]? = some o := ⟨os[k]'(by have := HL.out; omega), List.getElem?_eq_getElem _⟩
      have may := HK.out o (List.mem_of_getElem? ho)
      have obd := ovK_bd (p := p) may ⟨p1, p2⟩
      have wbd := wrK_bd (p := p) may ⟨p1, p2⟩
      obtain ⟨_, _, ⟨m1, m2⟩, m3, m4⟩ := mayO_iff.1 may
      obtain ⟨bb, oo, rfl, rg⟩ := grd_rng (HR.out _ BB.out) ho
      have RG : Hid (wr.rangeAt bb (oo + k * 5) (EO.cells o)) := Lib.hid rg
      have TK' := Lib.hid (take_g ho)
      have X1 := Lib.hid (gbx_new (E := EO) (te := 41) wr zeroOr)
      obtain ⟨W2, hW2⟩ : ∃ W2, (wr.alloc (.cells (EO.cells zeroOr).toArray 41)).setRow wr.heap.size (EO.cells o).toArray = W2 := ⟨_, rfl⟩
      have x2 : EO.Bx 41 W2 wr.heap.size o := by rw [← hW2]; exact gbx_set X1.out
      have B2 : Hid (Below wr.heap.size wr W2) := Lib.hid (by rw [← hW2]; exact below_row0 (below_new _ _) (Nat.le_refl _))
      have B3 := Lib.hid (BB.out.trans (B2.out.mono BB.out.size))
      have c2 := bo_at x2 2 rfl
      have c3 := bo_at x2 3 rfl
      have c4 := bo_at x2 4 rfl
      have c27 := HP.out W2 B3.out
      have HW2 := Lib.hid hW2
      clear rg x2 hW2 ho may
      cases hbu : o.bu
      · obtain ⟨e1, e2, e3⟩ := bu_f hbu p
        have E1 : Hid (B = sumO buK (os.take (k + 1))) := Lib.hid (by rw [TK'.out, sumO_snoc, e1, ← EB.out]; omega)
        have E2 : Hid (S + o.le = sumO seK (os.take (k + 1))) := Lib.hid (by rw [TK'.out, sumO_snoc, e2, ← ES.out])
        have E3 : Hid (V + max (p - o.pr) 0 * o.le = sumO (ovK p) (os.take (k + 1))) := Lib.hid (by rw [TK'.out, sumO_snoc, e3, ← EV.out])
        rw [e3] at obd
        rw [hbu] at c2
        obtain ⟨o1, o2⟩ := obd
        have z1 : -9223372036854775808 ≤ max (p - o.pr) 0 * o.le := by omega
        have z2 : max (p - o.pr) 0 * o.le ≤ 9223372036854775807 := by omega
        have z3 : -9223372036854775808 ≤ V + max (p - o.pr) 0 * o.le := by omega
        have z4 : V + max (p - o.pr) 0 * o.le ≤ 9223372036854775807 := by omega
        clear e1 e2 e3 hbu wbd o1 o2
        go_wp2_with (first | ((with_reducible refine gwl_load TO bb (oo + k * 5) RG.out ?_ ?_ ?_); rfl; rfl) | (refine gwl_store TO o wr.heap.size X1.out rfl rfl ?_; rw [HW2.out]))
        go_roundw
        case rel => exact ⟨k + 1, _, _, _, hlt, by go_num, rfl, rfl, rfl, E1.out, E2.out, E3.out, B3.out⟩
        case measure => simp [intOf]; omega
      · obtain ⟨e1, e2, e3⟩ := bu_t hbu p
        have E1 : Hid (B + o.le = sumO buK (os.take (k + 1))) := Lib.hid (by rw [TK'.out, sumO_snoc, e1, ← EB.out])
        have E2 : Hid (S = sumO seK (os.take (k + 1))) := Lib.hid (by rw [TK'.out, sumO_snoc, e2, ← ES.out]; omega)
        have E3 : Hid (V + max (o.pr - p) 0 * o.le = sumO (ovK p) (os.take (k + 1))) := Lib.hid (by rw [TK'.out, sumO_snoc, e3, ← EV.out])
        rw [e3] at obd
        rw [hbu] at c2
        obtain ⟨o1, o2⟩ := obd
        have z1 : -9223372036854775808 ≤ max (o.pr - p) 0 * o.le := by omega
        have z2 : max (o.pr - p) 0 * o.le ≤ 9223372036854775807 := by omega
        have z3 : -9223372036854775808 ≤ V + max (o.pr - p) 0 * o.le := by omega
        have z4 : V + max (o.pr - p) 0 * o.le ≤ 9223372036854775807 := by omega
        clear e1 e2 e3 hbu wbd o1 o2
        go_wp2_with (first | ((with_reducible refine gwl_load TO bb (oo + k * 5) RG.out ?_ ?_ ?_); rfl; rfl) | (refine gwl_store TO o wr.heap.size X1.out rfl rfl ?_; rw [HW2.out]))
        go_roundw
        case rel => exact ⟨k + 1, _, _, _, hlt, by go_num, rfl, rfl, rfl, E1.out, E2.out, E3.out, B3.out⟩
        case measure => simp [intOf]; omega
theorem scan_is {l : List Int} {q : Int} (hl : ShB l) (hq : -1000000000 ≤ q ∧ q ≤ 1000000000) : scanN l q = wst l q ∧ scanE l q = 0 := by
  have hb : scanB l q = true := scanB_iff.2 ⟨hl, hq⟩
  unfold scanE scanN
  rw [hb]
  exact ⟨rfl, rfl⟩
set_option maxRecDepth 100000 in
theorem scanned11 (x : Sk) (g : Nat) (q : Int) (w : World) (hb : stkB x = true) (ok : x.lg.ok) (hx : EK.Bx 33 w g x) (hq : -1000000000 ≤ q ∧ q ≤ 1000000000) :
    Calls Try.prog 37 #[.int .i64 q, .pointer (some ⟨g, 0, none⟩)] w fun e w' => e = .returned (.int .i64 (wst x.lg.sp.sh q)) ∧ Below w.heap.size w w' := by
  have SC := Lib.hid fun W => scan10 x.lg.sp.sh q W x.lg.len ok.sp.sh (by unfold I64; omega)
  rw [(scan_is (legB_sh (stk_leg hb)) hq).1, (scan_is (legB_sh (stk_leg hb)) hq).2] at SC
  have AR := Lib.hid (bk_arr hx)
  have L := Lib.hid x.lg.len
  clear hb ok hx hq
  go_enter Try.func37, Try.ntmps37
  go_wp2_with ((with_reducible refine wl_arr10 L.out g 6 AR.out ?_ ?_ ?_); rfl; rfl)
  refine (SC.out _).mono ?_; rintro e w2 ⟨rfl, q2⟩
  have Q2 := Lib.hid q2
  clear q2
  go_wp2_with fail
  go_ret
  exact ⟨rfl, Q2.out⟩
set_option maxRecDepth 100000 in
set_option maxHeartbeats 2000000 in
theorem worst11 (x : Sk) (w : World) (hb : stkB x = true) (ok : x.lg.ok) (hin : x.In w) : Calls Try.prog 19 #[.agg (EK.cells x).toArray] w fun e w' => e = .returned (.int .i64 (wsK x)) ∧ Below w.heap.size w w' := by
  have eg : ∀ args w, (callFunc 37 args).run Try.prog w = .ok (.enter 37 args) w := fun args w => by go_simp
  obtain ⟨W1, hW1⟩ : ∃ W1, w.alloc (.cells (EK.cells x).toArray 33) = W1 := ⟨_, rfl⟩
  have x1 : EK.Bx 33 W1 w.heap.size x := by rw [← hW1]; exact gbx_new w x
  have b1 : Below w.heap.size w W1 := by rw [← hW1]; exact below_new w _
  have OP := Lib.hid (open11 x W1 hb (grd_below hin b1 (Nat.le_refl _)))
  have hq := (stkB_iff.1 hb).2.1
  have bb := bK_bd hb
  have sb := sK_bd hb
  have ob := oK_bd hb
  have SC := Lib.hid fun (q : Int) (w2 : World) (h : Below W1.heap.size W1 w2) (hq : -1000000000 ≤ q ∧ q ≤ 1000000000) => scanned11 x w.heap.size q w2 hb ok (gbx_below x1 h) hq
  have RG := Lib.hid (bk_rng x1)
  have HQ := Lib.hid fun (w2 : World) (q : Below W1.heap.size W1 w2) => (show w2.cell? ⟨w.heap.size, 25, none⟩ = some (.int .i64 x.lg.q) from bk_q (gbx_below x1 q))
  have B1 := Lib.hid b1
  have HW := Lib.hid hW1
  have M := fun q (hq : -1000000000 ≤ q ∧ q ≤ 1000000000) => (show 0 ≤ wst x.lg.sp.sh q ∧ wst x.lg.sp.sh q ≤ 10000000000000000 from ⟨wst_pos _ _, wst_max (M := 1000000000) (legB_sh (stk_leg hb)) hq⟩)
  have m1 := M (x.lg.q + bK x) (by omega)
  have m2 := M (x.lg.q - sK x) (by omega)
  have m3 := M x.lg.q (by omega)
  have E : Hid (wsK x = max (max (wst x.lg.sp.sh (x.lg.q + bK x)) (wst x.lg.sp.sh (x.lg.q - sK x)) - wst x.lg.sp.sh x.lg.q) 0 + oK x) := Lib.hid rfl
  have C1 := Lib.hid fun w2 h => SC.out (x.lg.q + bK x) w2 h (by omega)
  have C2 := Lib.hid fun w2 h => SC.out (x.lg.q - sK x) w2 h (by omega)
  have C3 := Lib.hid fun w2 h => SC.out x.lg.q w2 h (by omega)
  rw [E.out]
  clear x1 b1 hW1 hb hin ok E M SC
  generalize bK x = B at *
  generalize sK x = S at *
  generalize oK x = V at *
  generalize x.lg.q = q at *
  generalize wst x.lg.sp.sh (q + B) = r1 at *
  generalize wst x.lg.sp.sh (q - S) = r2 at *
  generalize wst x.lg.sp.sh q = r3 at *
  obtain ⟨h1, h2⟩ := hq
  obtain ⟨h3, h4⟩ := bb
  obtain ⟨h5, h6⟩ := sb
  obtain ⟨h7, h8⟩ := ob
  obtain ⟨m4, m5⟩ := m1
  obtain ⟨m6, m7⟩ := m2
  obtain ⟨m8, m9⟩ := m3
  go_enter Try.func19, Try.ntmps19
  go_wp2_with (first | (rw [HW.out]) | ((with_reducible refine gwl_load TK w.heap.size 0 RG.out ?_ ?_ ?_); rfl; rfl))
  refine OP.out.mono ?_; rintro e w2 ⟨rfl, q2⟩
  have c25 := HQ.out w2 q2
  have Q2 := Lib.hid q2
  clear q2
  go_wp2_with fail
  refine (C1.out _ Q2.out).mono ?_; rintro e w3 ⟨rfl, q3⟩
  have Q3 := Lib.hid (Q2.out.trans (q3.mono Q2.out.size))
  clear q3 c25
  go_wp2_with fail
  refine (C2.out _ Q3.out).mono ?_; rintro e w4 ⟨rfl, q4⟩
  have Q4 := Lib.hid (Q3.out.trans (q4.mono Q3.out.size))
  clear q4
  go_wp2_with fail
  refine (C3.out _ Q4.out).mono ?_; rintro e w5 ⟨rfl, q5⟩
  have Q5 := Lib.hid (Q4.out.trans (q5.mono Q4.out.size))
  clear q5
  go_wp2_with fail
  go_ret
  exact ⟨rfl, B1.out.trans (Q5.out.mono B1.out.size)⟩
end Go.Proofs.Ytcpcnjiphiokjaa
