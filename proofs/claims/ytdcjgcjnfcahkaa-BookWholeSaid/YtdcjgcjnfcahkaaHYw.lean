/- The walk of the statement BookWhole, given the program's book. -/
import Derived.Test.YtdcjgcjnfcahkaaHYh
namespace Go.Proofs.Ytdcjgcjnfcahkaa
open Go.RowKit Go.Shelf
set_option linter.unusedVariables false
set_option linter.unusedSimpArgs false

set_option maxRecDepth 100000 in
set_option maxHeartbeats 2000000 in
theorem whole7_out {Pb : PbT} (K : BookK Pb) (A : Option Addr) (n c : Nat) (o : Or) (w : World) (hn : 100 < n) (hm : n ≤ 9223372036854775807) :
    Calls Try.prog 9 #[.slice A n c, .agg (EO.cells o).toArray] w fun e w' => e = .returned (.bool true) ∧ Below w.heap.size w w' := by
  have KN := Lib.hid (fun W => known7_any K W)
  have NW := Lib.hid (fun W => K.new W)
  have hd : decide (100 < (n : Int)) = true := decide_eq_true (by omega)
  clear K
  obtain ⟨W0, hW0⟩ : ∃ W0, w.alloc (.cells (EO.cells o).toArray 31) = W0 := ⟨_, rfl⟩
  have b0 : Below w.heap.size w W0 := hW0 ▸ below_new w _
  have HW0 := Lib.hid hW0
  have B0 := Lib.hid b0
  clear hW0 b0
  go_enter Try.func9, Try.ntmps9
  go_wp2_with fail
  rw [HW0.out]
  refine (NW.out W0).mono ?_; rintro e w1 ⟨G, F, rfl, hp, q1, hF⟩
  have Q1 := Lib.hid (B0.out.trans (q1.mono B0.out.size))
  clear q1 hp hF
  go_wp2_with fail
  refine (KN.out _).mono ?_; rintro e w2 ⟨rfl, q⟩
  have Q := Lib.hid (Q1.out.trans (q.mono Q1.out.size))
  clear q
  go_wp2_with fail
  go_ret
  exact ⟨rfl, Q.out⟩
set_option maxRecDepth 100000 in
set_option maxHeartbeats 8000000 in
theorem whole7_in {Pb : PbT} (K : BookK Pb) (A : Option Addr) (n c : Nat) (l : List Op7) (o : Or) (w : World) (hr : EOp.Rd w A n l) (hok : ∀ x, x ∈ l → x.ok) (hn : n ≤ 100) (ok : o.ok) :
    Calls Try.prog 9 #[.slice A n c, .agg (EO.cells o).toArray] w fun e w' => e = .returned (.bool true) ∧ Below w.heap.size w w' := by
  have KN := Lib.hid (fun W => known7_any K W)
  have NW := Lib.hid (fun W => K.new W)
  have KH := Lib.hid K
  have hd100 : decide (100 < (n : Int)) = false := decide_eq_false (by omega)
  have HR := Lib.hid hr
  have HOK := Lib.hid hok
  have OK := Lib.hid ok
  have hpx := zero_px
  obtain ⟨W0, hW0⟩ : ∃ W0, w.alloc (.cells (EO.cells o).toArray 31) = W0 := ⟨_, rfl⟩
  have b0 : Below w.heap.size w W0 := hW0 ▸ below_new w _
  have x0 : EO.Bx 31 W0 w.heap.size o := hW0 ▸ gbx_new w o
  have HW0 := Lib.hid hW0
  have B0 := Lib.hid b0
  have X0 := Lib.hid x0
  clear K hr hok ok hW0 b0 x0
  go_enter Try.func9, Try.ntmps9
  go_wp2_with fail
  rw [HW0.out]
  refine (NW.out W0).mono ?_; rintro e w1 ⟨G, F, rfl, hp, q1, hF⟩
  have C0 : Hid (On Pb w [orB w.heap.size o] w1 G (fun _ => []) 0) := Lib.hid (on_new KH.out B0.out (one_in X0.out) hp q1 hF)
  clear q1 hp hF NW
  go_wp2_with fail
  go_loopw [29] (fun i wr => ∃ (k : Nat) (S : Sd) (t : Nat), k ≤ n ∧ i = .int .i64 k ∧ On Pb w [orB w.heap.size o] wr G S t ∧ t ≤ k) (fun i _ => n - (intOf i).toNat)
  case atStart => exact ⟨0, _, 0, Nat.zero_le _, rfl, C0.out, Nat.le_refl _⟩
  case round =>
    obtain ⟨k, S, t, hk, rfl, hc, ht⟩ := hrel
    have CC := Lib.hid hc
    clear hc C0
    by_cases hlt : k < n
    case pos =>
      have hd : decide ((k : Int) < n) = true := decide_eq_true (by omega)
      have hki : (k : Int) < (n : Int) := by omega
      obtain ⟨x, hx⟩ : ∃ x, l[k]? = some x := ⟨l[k]'(by have := HR.out.1; omega), List.getElem?_eq_getElem _⟩
      obtain ⟨b, o', rfl, hrg⟩ := grd_rng HR.out hx
      have OKX := Lib.hid (HOK.out x (List.mem_of_getElem? hx))
      have RG : Hid (wr.rangeAt b (o' + k * 7) (EOp.cells x)) := Lib.hid (rng_below hrg CC.out.bl (Nat.le_refl _))
      clear hx hrg
      go_wp2_with ((with_reducible refine gwl_load TOp b (o' + k * 7) RG.out ?_ ?_ ?_); rfl; rfl)
      refine (CC.out.play KH.out OKX.out (by omega)).mono ?_; rintro e w2 ⟨⟨v, rfl⟩, c2⟩
      have C2 := Lib.hid c2
      clear c2
      go_wp2_with fail
      go_roundw
      case rel => exact ⟨k + 1, _, t + 1, hlt, by go_num, C2.out, by omega⟩
      case measure => simp [intOf]; omega
    case neg =>
      obtain rfl : k = n := by omega
      have hd : decide ((k : Int) < k) = false := decide_eq_false (by omega)
      have CP : Hid (Calls Try.prog 13 #[.pointer (some ⟨G, 0, none⟩)] wr fun e w' => ∃ G2, e = .returned (.pointer (some ⟨G2, 0, none⟩)) ∧ Tw Pb w [orB w.heap.size o] w' G G2 S S t t) := Lib.hid (by
        have h0 := CC.out
        obtain ⟨A1, h1⟩ := h0
        exact (KH.out.copy h1.pb).mono fun e w' ⟨G2, A2, e1, p2, q, hA⟩ => ⟨G2, e1, CC.out.two KH.out q p2 hA⟩)
      have IV := Lib.hid (CC.out.inv KH.out)
      have RG0 := Lib.hid (gbx_rng (Xs.or CC.out.xs (List.mem_singleton.2 rfl)))
      go_wp2_with fail
      refine CP.out.mono ?_; rintro e w2 ⟨G2, rfl, t2⟩
      have T2 := Lib.hid t2
      have RG2 := Lib.hid (gbx_rng (Xs.or t2.xs (List.mem_singleton.2 rfl)))
      clear t2 CP CC
      go_wp2_with ((with_reducible refine gwl_load TO w.heap.size 0 RG2.out ?_ ?_ ?_); rfl; rfl)
      refine (T2.out.p KH.out (fun A h => KH.out.place (k := 3) h OK.out (by omega))).mono ?_; rintro e w3 ⟨p, rfl, ⟨p1, p2⟩, _, R, _, t3⟩
      have t3 := t3.less (Y := [orB w.heap.size o]) (fun x hx => List.mem_append_right _ hx)
      obtain ⟨V3, hV, bV, yV, zV, sV⟩ := put_px p (Below.refl w3.heap.size w3)
      have HV3 := Lib.hid hV
      have ZV3 := Lib.hid zV
      have T3 : Hid (Tw Pb w ([pxB w3.heap.size p] ++ [orB w.heap.size o]) V3 G G2 (placeS S o 3) S (t + 1) t) := Lib.hid (t3.push KH.out bV (one_in yV) (fun x hx => by rw [List.mem_singleton.1 hx]; exact Nat.le_refl _))
      have RG3 := Lib.hid (gbx_rng (Xs.or T3.out.xs (List.mem_cons_of_mem _ (List.mem_singleton.2 rfl))))
      clear t3 hV bV yV zV sV T2
      go_wp2_with (first | ((with_reducible refine wl_store_px p w3.heap.size ZV3.out ?_ ?_ ?_); rfl; rfl; rw [HV3.out]) | ((with_reducible refine gwl_load (d := some 49) TO w.heap.size 0 RG3.out ?_ ?_ ?_); rfl; rfl))
      refine (T3.out.q KH.out (fun A h => KH.out.place (k := 4) h OK.out (by omega))).mono ?_; rintro e w4 ⟨q, rfl, ⟨q1, q2⟩, q3, R, _, t4⟩
      have t4 := t4.less (Y := [pxB w3.heap.size p] ++ [orB w.heap.size o]) (fun x hx => List.mem_append_right _ hx)
      obtain ⟨V4, hV, bV, yV, zV, sV⟩ := put_px q (Below.refl w4.heap.size w4)
      have HV4 := Lib.hid hV
      have ZV4 := Lib.hid zV
      have T4 : Hid (Tw Pb w ([pxB w4.heap.size q] ++ ([pxB w3.heap.size p] ++ [orB w.heap.size o])) V4 G G2 (placeS S o 3) (placeS S o 4) (t + 1) (t + 1)) := Lib.hid (t4.push KH.out bV (one_in yV) (fun x hx => by rw [List.mem_singleton.1 hx]; exact Nat.le_refl _))
      have XB := T4.out.xs
      have bo := Xs.or (b := w.heap.size) (o := o) XB (by simp)
      have bp := Xs.px (b := w3.heap.size) (p := p) XB (by simp)
      have bq := Xs.px (b := w4.heap.size) (p := q) XB (by simp)
      have o4 : V4.cell? ⟨w.heap.size, 4, none⟩ = some (.int .i64 o.le) := gbx_cell bo 4
      have p4 : V4.cell? ⟨w3.heap.size, 2, none⟩ = some (.int .i64 p.fi) := gbx_cell bp 2
      have p5 : V4.cell? ⟨w3.heap.size, 3, none⟩ = some (.int .i64 p.lf) := gbx_cell bp 3
      have r2 : V4.cell? ⟨w4.heap.size, 2, none⟩ = some (.int .i64 q.fi) := gbx_cell bq 2
      have r3 : V4.cell? ⟨w4.heap.size, 3, none⟩ = some (.int .i64 q.lf) := gbx_cell bq 3
      have r0 : V4.cell? ⟨w4.heap.size, 0, none⟩ = some (.slice q.ta q.tn q.tc) := gbx_cell bq 0
      have RG4 := Lib.hid (gbx_rng bo)
      have qtn := q3.tl
      have FA := Lib.hid (fun h => pa_all (S := S) (o := o) IV.out h)
      have FP := Lib.hid (fun h => pa_post (S := S) (o := o) IV.out h)
      have FB := Lib.hid (fun h => pa_both (S := S) (o := o) IV.out h)
      have FN := Lib.hid (fun h => (pa_no (S := S) (o := o) (k := 3) h).1)
      have P1 := Lib.hid p1
      have P2 := Lib.hid p2
      have Q1 := Lib.hid q1
      have Q2 := Lib.hid q2
      have QN := Lib.hid qtn
      clear t4 hV bV yV zV sV T3 XB bo bp bq p1 p2 q1 q2 q3 qtn
      have KNF : Hid (∀ W, Below V4.heap.size V4 W → Calls Try.prog 12 #[] W fun e w' => e = .returned (.bool true) ∧ Below w.heap.size w w') := Lib.hid fun W q => (KN.out W).mono fun e w' ⟨e1, q2⟩ => ⟨e1, (T4.out.bl.trans (q.mono T4.out.bl.size)).trans (q2.mono (T4.out.bl.trans (q.mono T4.out.bl.size)).size)⟩
      by_cases h3 : placeA S o 3 = 0
      · have h4 := FB.out h3
        obtain ⟨_, f1, f2⟩ := FA.out h3
        have g1 : p.fi = o.le := P1.out.trans f1
        have g2 : p.lf = 0 := P2.out.trans f2
        rw [g1] at p4
        rw [g2] at p5
        have e4 : (placeA S o 4 == 0) = false := beq_eq_false_iff_ne.2 h4
        rw [h3]
        generalize placeA S o 4 = a4 at *
        clear FA FP FB FN P1 P2 Q1 Q2 QN h3 h4 f1 f2 g1 g2
        go_wp2_with (first | ((with_reducible refine wl_store_px q w4.heap.size ZV4.out ?_ ?_ ?_); rfl; rfl; rw [HV4.out]))
        refine (KNF.out _ (Below.refl _ _)).mono ?_; rintro e w9 ⟨rfl, qf⟩
        have BF := Lib.hid qf
        clear qf
        go_wp2_with fail
        go_ret
        exact ⟨rfl, BF.out⟩
      · have e3 : (placeA S o 3 == 0) = false := beq_eq_false_iff_ne.2 h3
        have PS := FN.out h3
        have Q4 : (placeA S o 4 == 0) = false ∨ (placeA S o 4 == 0) = true ∧ q.fi = 0 ∧ q.lf = o.le ∧ q.tn = 0 := by
          by_cases h4 : placeA S o 4 = 0
          · obtain ⟨_, f1, f2, f3⟩ := FP.out h4
            exact .inr ⟨beq_iff_eq.2 h4, Q1.out.trans f1, Q2.out.trans f2, by rw [QN.out, f3]; rfl⟩
          · exact .inl (beq_eq_false_iff_ne.2 h4)
        have PA := Lib.hid (T4.out.p KH.out (fun A h => KH.out.place (k := 3) h OK.out (by omega)))
        rw [PS] at PA
        generalize placeA S o 4 = a4 at *
        by_cases h70 : placeA S o 3 = 70
        · rw [h70] at PA ⊢
          clear FA FP FB FN P1 P2 Q1 Q2 QN h3 PS h70 e3
          rcases Q4 with e4 | ⟨e4, g1, g2, g3⟩
          · go_wp2_with (first | ((with_reducible refine wl_store_px q w4.heap.size ZV4.out ?_ ?_ ?_); rfl; rfl; rw [HV4.out]) | ((with_reducible refine gwl_load (d := some 93) TO w.heap.size 0 RG4.out ?_ ?_ ?_); rfl; rfl))
            refine PA.out.mono ?_; rintro e w5 ⟨p9, rfl, _, _, R9, _, t5⟩
            obtain ⟨V5, hV, bV, yV, zV, sV⟩ := put_px p9 (Below.refl w5.heap.size w5)
            have HV5 := Lib.hid hV
            have ZV5 := Lib.hid zV
            have T5 := Lib.hid (t5.below KH.out bV)
            clear t5 hV bV yV zV sV
            go_wp2_with ((with_reducible refine wl_store_px p9 w5.heap.size ZV5.out ?_ ?_ ?_); rfl; rfl; rw [HV5.out])
            refine (KN.out V5).mono ?_; rintro e w9 ⟨rfl, qf⟩
            have BF := Lib.hid (T5.out.bl.trans (qf.mono T5.out.bl.size))
            clear qf
            go_wp2_with fail
            go_ret
            exact ⟨rfl, BF.out⟩
          · rw [g1] at r2
            rw [g2] at r3
            rw [g3] at r0
            clear g1 g2 g3
            go_wp2_with (first | ((with_reducible refine wl_store_px q w4.heap.size ZV4.out ?_ ?_ ?_); rfl; rfl; rw [HV4.out]) | ((with_reducible refine gwl_load (d := some 93) TO w.heap.size 0 RG4.out ?_ ?_ ?_); rfl; rfl))
            refine PA.out.mono ?_; rintro e w5 ⟨p9, rfl, _, _, R9, _, t5⟩
            obtain ⟨V5, hV, bV, yV, zV, sV⟩ := put_px p9 (Below.refl w5.heap.size w5)
            have HV5 := Lib.hid hV
            have ZV5 := Lib.hid zV
            have T5 := Lib.hid (t5.below KH.out bV)
            clear t5 hV bV yV zV sV
            go_wp2_with ((with_reducible refine wl_store_px p9 w5.heap.size ZV5.out ?_ ?_ ?_); rfl; rfl; rw [HV5.out])
            refine (KN.out V5).mono ?_; rintro e w9 ⟨rfl, qf⟩
            have BF := Lib.hid (T5.out.bl.trans (qf.mono T5.out.bl.size))
            clear qf
            go_wp2_with fail
            go_ret
            exact ⟨rfl, BF.out⟩
        · have e70 : (placeA S o 3 == 70) = false := beq_eq_false_iff_ne.2 h70
          generalize placeA S o 3 = a3 at *
          clear FA FP FB FN P1 P2 Q1 Q2 QN h3 PS h70 PA
          rcases Q4 with e4 | ⟨e4, g1, g2, g3⟩
          · go_wp2_with (first | ((with_reducible refine wl_store_px q w4.heap.size ZV4.out ?_ ?_ ?_); rfl; rfl; rw [HV4.out]))
            refine (KNF.out _ (Below.refl _ _)).mono ?_; rintro e w9 ⟨rfl, qf⟩
            have BF := Lib.hid qf
            clear qf
            go_wp2_with fail
            go_ret
            exact ⟨rfl, BF.out⟩
          · rw [g1] at r2
            rw [g2] at r3
            rw [g3] at r0
            clear g1 g2 g3
            go_wp2_with (first | ((with_reducible refine wl_store_px q w4.heap.size ZV4.out ?_ ?_ ?_); rfl; rfl; rw [HV4.out]))
            refine (KNF.out _ (Below.refl _ _)).mono ?_; rintro e w9 ⟨rfl, qf⟩
            have BF := Lib.hid qf
            clear qf
            go_wp2_with fail
            go_ret
            exact ⟨rfl, BF.out⟩
theorem whole7_all {Pb : PbT} (K : BookK Pb) (A : Option Addr) (n c : Nat) (l : List Op7) (o : Or) (w : World) (hr : EOp.Rd w A n l) (hok : ∀ x, x ∈ l → x.ok) (hm : n ≤ maxLen) (ok : o.ok) :
    Calls Try.prog 9 #[.slice A n c, .agg (EO.cells o).toArray] w fun e w' => e = .returned (.bool true) ∧ Below w.heap.size w w' := by
  unfold maxLen at hm
  rcases Nat.lt_or_ge 100 n with h | h
  · exact whole7_out K A n c o w h (by omega)
  · exact whole7_in K A n c l o w hr hok h ok
end Go.Proofs.Ytdcjgcjnfcahkaa
