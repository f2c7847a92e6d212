/- The walk of the statement BookNow, given the program's book. -/
import Derived.Test.YtdcjgcjnfcahkaaHYj
import Derived.Test.YtdcjgcjnfcahkaaG24
namespace Go.Proofs.Ytdcjgcjnfcahkaa
open Go.RowKit Go.Shelf
set_option linter.unusedVariables false
set_option linter.unusedSimpArgs false

set_option maxRecDepth 100000 in
set_option maxHeartbeats 2000000 in
theorem now7_out {Pb : PbT} (K : BookK Pb) (A : Option Addr) (n c : Nat) (o : Or) (w : World) (hn : 100 < n) (hm : n ≤ 9223372036854775807) :
    Calls Try.prog 8 #[.slice A n c, .agg (EO.cells o).toArray] w fun e w' => e = .returned (.bool true) ∧ Below w.heap.size w w' := by
  have KN := Lib.hid (fun W => known7_any K W)
  have NW := Lib.hid (fun W => K.new W)
  have hd : decide (100 < (n : Int)) = true := decide_eq_true (by omega)
  clear K
  obtain ⟨W0, hW0⟩ : ∃ W0, w.alloc (.cells (EO.cells o).toArray 31) = W0 := ⟨_, rfl⟩
  have b0 : Below w.heap.size w W0 := hW0 ▸ below_new w _
  have HW0 := Lib.hid hW0
  have B0 := Lib.hid b0
  clear hW0 b0
  go_enter Try.func8, Try.ntmps8
  go_wp2_with fail
  rw [HW0.out]
  refine (NW.out W0).mono ?_; rintro e w1 ⟨G, F, rfl, hp, q1, hF⟩
  have Q1 := Lib.hid (B0.out.trans (q1.mono B0.out.size))
  clear q1 hp hF
  go_wp2_with fail
  refine (NW.out w1).mono ?_; rintro e w1' ⟨G2, F2, rfl, hp, q1, hF⟩
  have Q1 := Lib.hid (Q1.out.trans (q1.mono Q1.out.size))
  clear q1 hp hF
  go_wp2_with fail
  refine (KN.out _).mono ?_; rintro e w2 ⟨rfl, q⟩
  have Q := Lib.hid (Q1.out.trans (q.mono Q1.out.size))
  clear q
  go_wp2_with fail
  go_ret
  exact ⟨rfl, Q.out⟩
section
variable {Pb : PbT} {w W : World} {X : Xs} {G H : Nat} {S T : Sd} {t u : Nat} {x : Op7}
theorem Tw.playa (K : BookK Pb) (h : Tw Pb w X W G H S T t u) (ok : x.ok) (ht : t < 1000000000) :
    Calls Try.prog 25 #[.pointer (some ⟨G, 0, none⟩), .agg (EOp.cells x).toArray] W fun e w' => (∃ v, e = .returned v) ∧ Tw Pb w X w' G H (playS S x) T (t + 1) u :=
  h.c K (R := fun e => ∃ v, e = .returned v) fun A h1 => play7_any K h1 ok ht
theorem Tw.playb (K : BookK Pb) (h : Tw Pb w X W G H S T t u) (ok : x.ok) (hu : u < 1000000000) :
    Calls Try.prog 25 #[.pointer (some ⟨H, 0, none⟩), .agg (EOp.cells x).toArray] W fun e w' => (∃ v, e = .returned v) ∧ Tw Pb w X w' G H S (playS T x) t (u + 1) :=
  h.d K (R := fun e => ∃ v, e = .returned v) fun A h1 => play7_any K h1 ok hu
theorem Tw.ors (K : BookK Pb) (h : Tw Pb w X W G H S T t u) :
    Calls Try.prog 17 #[.pointer (some ⟨G, 0, none⟩)] W fun e w' => ∃ v, e = .returned v ∧ EO.Own 31 w' W.heap.size v S.all ∧ Below W.heap.size W w' := by
  obtain ⟨A, B, h⟩ := h
  exact orders7_any K h.a
theorem Tw.orsb (K : BookK Pb) (h : Tw Pb w X W G H S T t u) :
    Calls Try.prog 17 #[.pointer (some ⟨H, 0, none⟩)] W fun e w' => ∃ v, e = .returned v ∧ EO.Own 31 w' W.heap.size v T.all ∧ Below W.heap.size W w' := h.swap.ors K
end
set_option maxRecDepth 100000 in
set_option maxHeartbeats 8000000 in
theorem now7_in {Pb : PbT} (K : BookK Pb) (A : Option Addr) (n c : Nat) (l : List Op7) (o : Or) (w : World) (hr : EOp.Rd w A n l) (hok : ∀ x, x ∈ l → x.ok) (hn : n ≤ 100) (ok : o.ok) :
    Calls Try.prog 8 #[.slice A n c, .agg (EO.cells o).toArray] w fun e w' => e = .returned (.bool true) ∧ Below w.heap.size w w' := by
  have KN := Lib.hid (fun W => known7_any K W)
  have NW := Lib.hid (fun W => K.new W)
  have KH := Lib.hid K
  have hd100 : decide (100 < (n : Int)) = false := decide_eq_false (by omega)
  have HR := Lib.hid hr
  have HOK := Lib.hid hok
  have OK := Lib.hid ok
  have hpx := zero_px
  have hzo := zero_or
  obtain ⟨W0, hW0⟩ : ∃ W0, w.alloc (.cells (EO.cells o).toArray 31) = W0 := ⟨_, rfl⟩
  have b0 : Below w.heap.size w W0 := hW0 ▸ below_new w _
  have x0 : EO.Bx 31 W0 w.heap.size o := hW0 ▸ gbx_new w o
  have HW0 := Lib.hid hW0
  have B0 := Lib.hid b0
  have X0 := Lib.hid x0
  clear K hr hok ok hW0 b0 x0
  go_enter Try.func8, Try.ntmps8
  go_wp2_with fail
  rw [HW0.out]
  refine (NW.out W0).mono ?_; rintro e w1 ⟨G, F, rfl, hp, q1, hF⟩
  have C0 : Hid (On Pb w [orB w.heap.size o] w1 G (fun _ => []) 0) := Lib.hid (on_new KH.out B0.out (one_in X0.out) hp q1 hF)
  clear q1 hp hF
  go_wp2_with fail
  refine (NW.out w1).mono ?_; rintro e w1' ⟨G2, F2, rfl, hp, q1, hF⟩
  have D0 : Hid (Tw Pb w [orB w.heap.size o] w1' G G2 (fun _ => []) (fun _ => []) 0 0) := Lib.hid (C0.out.two KH.out q1 hp hF)
  clear q1 hp hF NW C0
  go_wp2_with fail
  go_loopw [38] (fun i wr => ∃ (k : Nat) (S : Sd) (t : Nat), k ≤ n ∧ i = .int .i64 k ∧ Tw Pb w [orB w.heap.size o] wr G G2 S S t t ∧ t ≤ k) (fun i _ => n - (intOf i).toNat)
  case atStart => exact ⟨0, _, 0, Nat.zero_le _, rfl, D0.out, Nat.le_refl _⟩
  case round =>
    obtain ⟨k, S, t, hk, rfl, hc, ht⟩ := hrel
    have CC := Lib.hid hc
    clear hc D0
    by_cases hlt : k < n
    case pos =>
      have hd : decide ((k : Int) < n) = true := decide_eq_true (by omega)
      have hki : (k : Int) < (n : Int) := by omega
      obtain ⟨x, hx⟩ : ∃ x, l[k]? = some x := ⟨l[k]'(by have := HR.out.1; omega), List.getElem?_eq_getElem _⟩
      obtain ⟨b, o', rfl, hrg⟩ := grd_rng HR.out hx
      have OKX := Lib.hid (HOK.out x (List.mem_of_getElem? hx))
      have HRG := Lib.hid hrg
      have RG : Hid (wr.rangeAt b (o' + k * 7) (EOp.cells x)) := Lib.hid (rng_below hrg CC.out.bl (Nat.le_refl _))
      clear hx hrg
      go_wp2_with ((with_reducible refine gwl_load TOp b (o' + k * 7) RG.out ?_ ?_ ?_); rfl; rfl)
      refine (CC.out.playa KH.out OKX.out (by omega)).mono ?_; rintro e w2 ⟨⟨v, rfl⟩, c2⟩
      have C2 := Lib.hid c2
      have RG2 : Hid (w2.rangeAt b (o' + k * 7) (EOp.cells x)) := Lib.hid (rng_below HRG.out C2.out.bl (Nat.le_refl _))
      clear c2 CC RG
      go_wp2_with ((with_reducible refine gwl_load TOp b (o' + k * 7) RG2.out ?_ ?_ ?_); rfl; rfl)
      refine (C2.out.playb KH.out OKX.out (by omega)).mono ?_; rintro e w3 ⟨⟨v3, rfl⟩, c3⟩
      have C3 := Lib.hid c3
      clear c3
      go_wp2_with fail
      go_roundw
      case rel => exact ⟨k + 1, _, t + 1, hlt, by go_num, C3.out, by omega⟩
      case measure => simp [intOf]; omega
    case neg =>
      obtain rfl : k = n := by omega
      have hd : decide ((k : Int) < k) = false := decide_eq_false (by omega)
      have IV := Lib.hid (CC.out.inv KH.out).1
      have RG0 := Lib.hid (gbx_rng (Xs.or CC.out.xs (List.mem_singleton.2 rfl)))
      go_wp2_with ((with_reducible refine gwl_load TO w.heap.size 0 RG0.out ?_ ?_ ?_); rfl; rfl)
      refine (CC.out.p KH.out (fun A h => KH.out.place (k := 2) h OK.out (by omega))).mono ?_; rintro e w3 ⟨p, rfl, ⟨p1, p2⟩, p3, R3, p4, t3⟩
      obtain ⟨V3, hV, bV, yV, zV, sV⟩ := put_px p (Below.refl w3.heap.size w3)
      have HV3 := Lib.hid hV
      have ZV3 := Lib.hid zV
      have T3 : Hid (Tw Pb w ([pxB w3.heap.size p] ++ (R3 ++ [orB w.heap.size o])) V3 G G2 (placeS S o 2) S (t + 1) t) := Lib.hid (t3.push KH.out bV (one_in yV) (fun x hx => by rw [List.mem_singleton.1 hx]; exact Nat.le_refl _))
      have RG3 := Lib.hid (gbx_rng (Xs.or (b := w.heap.size) (o := o) T3.out.xs (by simp)))
      have PI : Hid (∀ U, Xs.in ([pxB w3.heap.size p] ++ (R3 ++ [orB w.heap.size o])) U → p.Is U wr.heap.size (placeP S o 2).td (placeP S o 2).gn) := Lib.hid fun U hU => (p3.below bV).at (X := [pxB w3.heap.size p] ++ (R3 ++ [orB w.heap.size o])) (fun k hk => by obtain ⟨y, hy⟩ := p4 k hk; exact ⟨y, by simp [hy]⟩) T3.out.xs hU
      have P1 := Lib.hid p1
      have P2 := Lib.hid p2
      clear t3 hV bV yV zV sV CC p1 p2 p3
      go_wp2_with (first | ((with_reducible refine wl_store_px p w3.heap.size ZV3.out ?_ ?_ ?_); rfl; rfl; rw [HV3.out]) | ((with_reducible refine gwl_load (d := some 62) TO w.heap.size 0 RG3.out ?_ ?_ ?_); rfl; rfl))
      refine (T3.out.q KH.out (fun A h => KH.out.place (k := 1) h OK.out (by omega))).mono ?_; rintro e w4 ⟨q, rfl, ⟨q1, q2⟩, q3, R4, q4, t4⟩
      obtain ⟨V4, hV, bV, yV, zV, sV⟩ := put_px q (Below.refl w4.heap.size w4)
      have HV4 := Lib.hid hV
      have ZV4 := Lib.hid zV
      obtain ⟨X4, hX4⟩ : ∃ X4 : Xs, [pxB w4.heap.size q] ++ (R4 ++ ([pxB w3.heap.size p] ++ (R3 ++ [orB w.heap.size o]))) = X4 := ⟨_, rfl⟩
      have T4 : Hid (Tw Pb w X4 V4 G G2 (placeS S o 2) (placeS S o 1) (t + 1) (t + 1)) := Lib.hid (hX4 ▸ t4.push KH.out bV (one_in yV) (fun x hx => by rw [List.mem_singleton.1 hx]; exact Nat.le_refl _))
      have XO : Hid (orB w.heap.size o ∈ X4) := Lib.hid (hX4 ▸ by simp)
      have XP : Hid (pxB w3.heap.size p ∈ X4) := Lib.hid (hX4 ▸ by simp)
      have XQ : Hid (pxB w4.heap.size q ∈ X4) := Lib.hid (hX4 ▸ by simp)
      have PI4 : Hid (∀ U, X4.in U → p.Is U wr.heap.size (placeP S o 2).td (placeP S o 2).gn) := Lib.hid fun U hU => PI.out U fun y hy => hU y (hX4 ▸ List.mem_append_right _ (List.mem_append_right _ hy))
      have QI4 : Hid (∀ U, X4.in U → q.Is U V3.heap.size (placeP S o 1).td (placeP S o 1).gn) := Lib.hid fun U hU => (q3.below bV).at (X := X4) (fun k hk => by obtain ⟨y, hy⟩ := q4 k hk; exact ⟨y, hX4 ▸ by simp [hy]⟩) T4.out.xs hU
      have Q1 := Lib.hid q1
      have Q2 := Lib.hid q2
      clear t4 hV bV yV zV sV q1 q2 q3 hX4 PI T3
      have KNF : Hid (∀ W, Below w.heap.size w W → Calls Try.prog 12 #[] W fun e w' => e = .returned (.bool true) ∧ Below w.heap.size w w') := Lib.hid fun W q => (KN.out W).mono fun e w' ⟨e1, q2⟩ => ⟨e1, q.trans (q2.mono q.size)⟩
      have BV4 := Lib.hid T4.out.bl
      have NA := Lib.hid (fun h => now_all (S := S) (o := o) IV.out OK.out h)
      by_cases h9 : placeA S o 1 = 9
      · rw [h9]
        generalize placeA S o 2 = a2
        clear NA Q1 Q2 P1 P2 PI4 QI4 RG0 RG3 IV
        go_wp2_with (first | ((with_reducible refine wl_store_px q w4.heap.size ZV4.out ?_ ?_ ?_); rfl; rfl; rw [HV4.out]))
        refine (KNF.out _ BV4.out).mono ?_; rintro e w9 ⟨rfl, qf⟩
        have BF := Lib.hid qf
        clear qf
        go_wp2_with fail
        go_ret
        exact ⟨rfl, BF.out⟩
      · have e9 : (placeA S o 1 == 9) = false := beq_eq_false_iff_ne.2 h9
        obtain ⟨n1, n2, n3, n4, n5, n6, n7⟩ := NA.out h9
        rw [n1]
        have hfi : p.fi = q.fi := (P1.out.trans n4).trans Q1.out.symm
        have hlf : p.lf = 0 := P2.out.trans n5
        have TD := Lib.hid (td_ok (S := S) (o := o) (k := 1) IV.out)
        obtain ⟨td, htd⟩ : ∃ td, (placeP S o 1).td = td := ⟨_, rfl⟩
        obtain ⟨gn, hgn⟩ : ∃ gn, (placeP S o 1).gn = gn := ⟨_, rfl⟩
        rw [n2, n3, htd, hgn] at PI4
        rw [htd, hgn] at QI4
        rw [htd] at TD
        rw [← Q2.out] at n6 n7
        have IV2 := Lib.hid (T4.out.inv KH.out).1
        have N6 := Lib.hid n6
        have N7 := Lib.hid n7
        -- cells of both, wherever these blocks stand
        have PC : Hid (∀ U, X4.in U → U.cell? ⟨w3.heap.size, 0, none⟩ = some (.slice p.ta td.length p.tc) ∧ U.cell? ⟨w3.heap.size, 1, none⟩ = some (.slice p.na gn.length p.nc) ∧ U.cell? ⟨w3.heap.size, 2, none⟩ = some (.int .i64 q.fi) ∧ U.cell? ⟨w3.heap.size, 3, none⟩ = some (.int .i64 0)) := Lib.hid fun U hU => by
          have h := Xs.px hU XP.out
          refine ⟨?_, ?_, ?_, ?_⟩
          · rw [← (PI4.out U hU).tl]; exact gbx_cell h 0
          · rw [← (PI4.out U hU).nl]; exact gbx_cell h 1
          · rw [← hfi]; exact gbx_cell h 2
          · rw [← hlf]; exact gbx_cell h 3
        have QC : Hid (∀ U, X4.in U → U.cell? ⟨w4.heap.size, 0, none⟩ = some (.slice q.ta td.length q.tc) ∧ U.cell? ⟨w4.heap.size, 1, none⟩ = some (.slice q.na gn.length q.nc) ∧ U.cell? ⟨w4.heap.size, 2, none⟩ = some (.int .i64 q.fi) ∧ U.cell? ⟨w4.heap.size, 3, none⟩ = some (.int .i64 q.lf)) := Lib.hid fun U hU => by
          have h := Xs.px hU XQ.out
          refine ⟨?_, ?_, ?_, ?_⟩
          · rw [← (QI4.out U hU).tl]; exact gbx_cell h 0
          · rw [← (QI4.out U hU).nl]; exact gbx_cell h 1
          · exact gbx_cell h 2
          · exact gbx_cell h 3
        have RDP : Hid (∀ U, X4.in U → ET.Rd U p.ta td.length td) := Lib.hid fun U hU => by
          have h := gown_rd (PI4.out U hU).to
          rwa [(PI4.out U hU).tl] at h
        have RDQ : Hid (∀ U, X4.in U → ET.Rd U q.ta td.length td) := Lib.hid fun U hU => by
          have h := gown_rd (QI4.out U hU).to
          rwa [(QI4.out U hU).tl] at h
        obtain ⟨S2, hS2⟩ : ∃ S2, placeS S o 2 = S2 := ⟨_, rfl⟩
        rw [hS2] at T4 IV2 N6 N7
        generalize placeA S o 1 = a1 at *
        clear NA Q1 Q2 P1 P2 PI4 QI4 RG0 n1 n2 n3 n4 n5 n6 n7 hfi hlf htd hgn h9 IV RG3 p4 q4 XP XQ
        obtain ⟨r0, r1, r2, r3⟩ := QC.out V4 T4.out.xs
        have RG4 := Lib.hid (gbx_cell (Xs.or T4.out.xs XO.out) 0)
        have o0 : V4.cell? ⟨w.heap.size, 0, none⟩ = some (.int .u64 o.nu) := RG4.out
        by_cases hl : 0 < q.lf
        · obtain ⟨m1, m2, m3⟩ := N7.out hl
          have hdl : decide (0 < q.lf) = true := decide_eq_true hl
          have CN : Hid (Calls Try.prog 21 #[.pointer (some ⟨G2, 0, none⟩), .int .u64 o.nu] V4 fun e w' => e = .returned (.tuple #[.agg (EO.cells (takeX (placeS S o 1) o.nu)).toArray, .int .i64 0]) ∧ Tw Pb w X4 w' G G2 S2 S2 (t + 1) (t + 1)) := Lib.hid (by
            have h := T4.out.d KH.out (T' := cancS (placeS S o 1) o.nu) (u' := t + 1) (fun A h => KH.out.canc (n := o.nu) h OK.out.nu)
            rw [m1, m3] at h
            exact h)
          obtain ⟨z, hz⟩ : ∃ z, takeX (placeS S o 1) o.nu = z := ⟨_, rfl⟩
          rw [hz] at CN m2
          clear r0 r1 r2 N6 N7 m1 m3 RG4 T4 hz
          go_wp2_with (first | ((with_reducible refine wl_store_px q w4.heap.size ZV4.out ?_ ?_ ?_); rfl; rfl; rw [HV4.out]))
          refine CN.out.mono ?_; rintro e w5 ⟨rfl, t5⟩
          obtain ⟨V5, hV, bV, yV, zV, sV⟩ := put_or z (Below.refl w5.heap.size w5)
          have HV5 := Lib.hid hV
          have ZV5 := Lib.hid zV
          have T5 : Hid (Tw Pb w X4 V5 G G2 S2 S2 (t + 1) (t + 1)) := Lib.hid (t5.below KH.out bV)
          have z4 : V5.cell? ⟨w5.heap.size, 4, none⟩ = some (.int .i64 z.le) := gbx_cell yV 4
          rw [m2] at z4
          obtain ⟨_, _, _, r3⟩ := QC.out V5 T5.out.xs
          clear t5 hV bV yV zV sV CN m2 o0
          go_wp2_with ((with_reducible refine gwl_store TO z w5.heap.size ZV5.out ?_ ?_ ?_); rfl; rfl; rw [HV5.out])
          clear z4 r3
          have OA := Lib.hid (T5.out.ors KH.out)
          refine OA.out.mono ?_; rintro e V6 ⟨u6, rfl, ho6, q6⟩
          obtain ⟨a6, n6, c6, rfl⟩ := gown_any ho6
          have T6 := Lib.hid (T5.out.below KH.out q6)
          clear OA T5 q6
          go_wp2_with fail
          have OB := Lib.hid (T6.out.orsb KH.out)
          refine OB.out.mono ?_; rintro e V7 ⟨u7, rfl, ho7, q7⟩
          obtain ⟨a7, n7, c7, rfl⟩ := gown_any ho7
          have R6 : Hid (EO.Rd V7 a6 n6 S2.all) := Lib.hid (grd_below (gown_rd ho6) q7 (Nat.le_refl _))
          have R7 : Hid (EO.Rd V7 a7 n7 S2.all) := Lib.hid (gown_rd ho7)
          have hn67 : n7 = n6 := R7.out.1.symm.trans R6.out.1
          have T7 := Lib.hid (T6.out.below KH.out q7)
          subst hn67
          have LN : Hid (n7 ≤ 200) := Lib.hid (by
            have h1 := R7.out.1
            have h2 := (IV2.out.inv true).len
            have h3 := (IV2.out.inv false).len
            unfold Sd.all at h1
            rw [List.length_append] at h1
            omega)
          have OKS : Hid (∀ x, x ∈ S2.all → x.ok) := Lib.hid fun x hx => (List.mem_append.1 hx).elim ((IV2.out.inv true).ok x) ((IV2.out.inv false).ok x)
          have PCL : Hid (∀ U, Below V7.heap.size V7 U → U.cell? ⟨w3.heap.size, 0, none⟩ = some (.slice p.ta td.length p.tc) ∧ U.cell? ⟨w3.heap.size, 1, none⟩ = some (.slice p.na gn.length p.nc) ∧ U.cell? ⟨w3.heap.size, 2, none⟩ = some (.int .i64 q.fi) ∧ U.cell? ⟨w3.heap.size, 3, none⟩ = some (.int .i64 0)) := Lib.hid fun U hU => PC.out U (Xs.below T7.out.xs hU)
          have QCL : Hid (∀ U, Below V7.heap.size V7 U → U.cell? ⟨w4.heap.size, 0, none⟩ = some (.slice q.ta td.length q.tc) ∧ U.cell? ⟨w4.heap.size, 1, none⟩ = some (.slice q.na gn.length q.nc) ∧ U.cell? ⟨w4.heap.size, 2, none⟩ = some (.int .i64 q.fi) ∧ U.cell? ⟨w4.heap.size, 3, none⟩ = some (.int .i64 q.lf)) := Lib.hid fun U hU => QC.out U (Xs.below T7.out.xs hU)
          have RP : Hid (ET.Rd V7 p.ta td.length td) := Lib.hid (RDP.out V7 T7.out.xs)
          have RQ : Hid (ET.Rd V7 q.ta td.length td) := Lib.hid (RDQ.out V7 T7.out.xs)
          have BE : Hid (∀ U, Below V7.heap.size V7 U → Below w.heap.size w U) := Lib.hid fun U hU => T7.out.bl.trans (hU.mono T7.out.bl.size)
          have B7 := Lib.hid (Below.refl V7.heap.size V7)
          have TLN : Hid (td.length ≤ 100) := Lib.hid TD.out.2
          obtain ⟨s0, s1, s2, s3⟩ := PCL.out V7 B7.out
          obtain ⟨r0, r1, r2, r3⟩ := QCL.out V7 B7.out
          clear OB T6 q7 ho6 ho7 T7 PC QC RDP RDQ IV2
          go_wp2_with fail
          clear s0 s1 s2 s3 r0 r1 r2 r3
          go_loopw [135] (fun i wr => ∃ j : Nat, j ≤ td.length ∧ i = .int .i64 j ∧ Below V7.heap.size V7 wr) (fun i _ => td.length - (intOf i).toNat)
          case atStart => exact ⟨0, Nat.zero_le _, rfl, B7.out⟩
          case round =>
            obtain ⟨j, hj, rfl, hb⟩ := hrel
            have BW := Lib.hid hb
            have tln := TLN.out
            clear hb
            by_cases hlt : j < td.length
            case pos =>
              have hd2 : decide ((j : Int) < td.length) = true := decide_eq_true (by omega)
              have hki : (j : Int) < (td.length : Int) := by omega
              obtain ⟨x, hx⟩ : ∃ x, td[j]? = some x := ⟨td[j]'hlt, List.getElem?_eq_getElem _⟩
              obtain ⟨b1, o1, e1, g1⟩ := grd_rng RP.out hx
              obtain ⟨b2, o2, e2, g2⟩ := grd_rng RQ.out hx
              rw [e1] at PCL
              rw [e2] at QCL
              have R1 : Hid (∀ U, Below V7.heap.size V7 U → U.rangeAt b1 (o1 + j * 4) (ET.cells x)) := Lib.hid fun U hU => rng_below g1 hU (Nat.le_refl _)
              have R2 : Hid (∀ U, Below V7.heap.size V7 U → U.rangeAt b2 (o2 + j * 4) (ET.cells x)) := Lib.hid fun U hU => rng_below g2 hU (Nat.le_refl _)
              have XOK := Lib.hid (TD.out.1 x (List.mem_of_getElem? hx))
              clear g1 g2 hx e1 e2
              go_wp2_with fail
              refine wp_region_held_drew (S := fun U => Below V7.heap.size V7 U) (by kernel_rfl) BW.out.drew (fun hH => ?_)
              refine wpAnyH_take (i := 0) (v := .pointer (some ⟨w3.heap.size, 0, none⟩)) rfl (by kernel_rfl) (by kernel_rfl) (by kernel_rfl) (fun _ _ _ h => h) (.inl ⟨by rfl, ?_⟩) (by assumption) ?_
              · intro W hW; go_simp
              try simp only [List.getElem_toArray, List.getElem_cons_zero, Act.put, List.setIfInBounds_toArray, List.set_cons_zero, List.set_cons_succ]
              refine wpAnyH_take (i := 1) (v := .slice (some ⟨b1, o1, none⟩) td.length p.tc) rfl (by kernel_rfl) (by kernel_rfl) (by kernel_rfl) (fun _ _ _ h => h) (.inl ⟨by rfl, ?_⟩) (by assumption) ?_
              · intro W hW; obtain ⟨c0, _, _, _⟩ := PCL.out W hW; go_simp
              try simp only [List.getElem_toArray, List.getElem_cons_zero, List.getElem_cons_succ, Act.put, List.setIfInBounds_toArray, List.set_cons_zero, List.set_cons_succ]
              refine wpAnyH_take (i := 2) (v := .int .i64 j) rfl (by kernel_rfl) (by kernel_rfl) (by kernel_rfl) (fun _ _ _ h => h) (.inl ⟨by rfl, ?_⟩) (by assumption) ?_
              · intro W hW; go_simp
              try simp only [List.getElem_toArray, List.getElem_cons_zero, List.getElem_cons_succ, Act.put, List.setIfInBounds_toArray, List.set_cons_zero, List.set_cons_succ]
              refine wpAnyH_take (i := 3) (v := .pointer (some ⟨b1, o1 + j * 4, none⟩)) rfl (by kernel_rfl) (by kernel_rfl) (by kernel_rfl) (fun _ _ _ h => h) (.inl ⟨by rfl, ?_⟩) (by assumption) ?_
              · intro W hW; go_simp
              try simp only [List.getElem_toArray, List.getElem_cons_zero, List.getElem_cons_succ, Act.put, List.setIfInBounds_toArray, List.set_cons_zero, List.set_cons_succ]
              refine wpAnyH_take (i := 4) (v := .agg (ET.cells x).toArray) rfl (by kernel_rfl) (by kernel_rfl) (by kernel_rfl) (fun _ _ _ h => h) (gyields_load TT (by rfl) (.tmp 141) rfl b1 (o1 + j * 4) rfl R1.out) (by assumption) ?_
              try simp only [List.getElem_toArray, List.getElem_cons_zero, List.getElem_cons_succ, Act.put, List.setIfInBounds_toArray, List.set_cons_zero, List.set_cons_succ]
              refine wpAnyH_take (i := 5) (v := .pointer (some ⟨w4.heap.size, 0, none⟩)) rfl (by kernel_rfl) (by kernel_rfl) (by kernel_rfl) (fun _ _ _ h => h) (.inl ⟨by rfl, ?_⟩) (by assumption) ?_
              · intro W hW; go_simp
              try simp only [List.getElem_toArray, List.getElem_cons_zero, List.getElem_cons_succ, Act.put, List.setIfInBounds_toArray, List.set_cons_zero, List.set_cons_succ]
              refine wpAnyH_take (i := 6) (v := .slice (some ⟨b2, o2, none⟩) td.length q.tc) rfl (by kernel_rfl) (by kernel_rfl) (by kernel_rfl) (fun _ _ _ h => h) (.inl ⟨by rfl, ?_⟩) (by assumption) ?_
              · intro W hW; obtain ⟨c0, _, _, _⟩ := QCL.out W hW; go_simp
              try simp only [List.getElem_toArray, List.getElem_cons_zero, List.getElem_cons_succ, Act.put, List.setIfInBounds_toArray, List.set_cons_zero, List.set_cons_succ]
              refine wpAnyH_take (i := 7) (v := .int .i64 j) rfl (by kernel_rfl) (by kernel_rfl) (by kernel_rfl) (fun _ _ _ h => h) (.inl ⟨by rfl, ?_⟩) (by assumption) ?_
              · intro W hW; go_simp
              try simp only [List.getElem_toArray, List.getElem_cons_zero, List.getElem_cons_succ, Act.put, List.setIfInBounds_toArray, List.set_cons_zero, List.set_cons_succ]
              refine wpAnyH_take (i := 8) (v := .pointer (some ⟨b2, o2 + j * 4, none⟩)) rfl (by kernel_rfl) (by kernel_rfl) (by kernel_rfl) (fun _ _ _ h => h) (.inl ⟨by rfl, ?_⟩) (by assumption) ?_
              · intro W hW; go_simp
              try simp only [List.getElem_toArray, List.getElem_cons_zero, List.getElem_cons_succ, Act.put, List.setIfInBounds_toArray, List.set_cons_zero, List.set_cons_succ]
              refine wpAnyH_take (i := 9) (v := .agg (ET.cells x).toArray) rfl (by kernel_rfl) (by kernel_rfl) (by kernel_rfl) (fun _ _ _ h => h) (gyields_load TT (by rfl) (.tmp 146) rfl b2 (o2 + j * 4) rfl R2.out) (by assumption) ?_
              try simp only [List.getElem_toArray, List.getElem_cons_zero, List.getElem_cons_succ, Act.put, List.setIfInBounds_toArray, List.set_cons_zero, List.set_cons_succ]
              refine wpAnyH_take (i := 10) (v := .bool false) rfl (by kernel_rfl) (by kernel_rfl) (by kernel_rfl) (fun _ _ _ h => h) (yields_neq_td0 (by rfl) (.tmp 142) (.tmp 147) rfl XOK.out rfl rfl) (by assumption) ?_
              try simp only [List.getElem_toArray, List.getElem_cons_zero, List.getElem_cons_succ, Act.put, List.setIfInBounds_toArray, List.set_cons_zero, List.set_cons_succ]
              refine wpAnyH_done (by decide +kernel) ?_ _
              have BD := Lib.hid hH
              clear hH
              go_wp2_with fail
              go_roundw
              case rel => exact ⟨j + 1, hlt, by go_num, BD.out⟩
              case measure => simp [intOf]; omega
            case neg =>
              obtain rfl : j = td.length := by omega
              have hd2 : decide ((td.length : Int) < td.length) = false := decide_eq_false (by omega)
              go_wp2_with fail
              go_loopw [152] (fun i wr => ∃ j : Nat, j ≤ n7 ∧ i = .int .i64 j ∧ Below V7.heap.size V7 wr) (fun i _ => n7 - (intOf i).toNat)
              case atStart => exact ⟨0, Nat.zero_le _, rfl, BW.out⟩
              case round =>
                obtain ⟨j, hj, rfl, hb⟩ := hrel
                have BW := Lib.hid hb
                have lnn := LN.out
                clear hb
                by_cases hlt : j < n7
                case pos =>
                  have hd3 : decide ((j : Int) < n7) = true := decide_eq_true (by omega)
                  have hki : (j : Int) < (n7 : Int) := by omega
                  obtain ⟨x, hx⟩ : ∃ x, S2.all[j]? = some x := ⟨S2.all[j]'(by rw [R7.out.1]; exact hlt), List.getElem?_eq_getElem _⟩
                  obtain ⟨b1, o1, e1, g1⟩ := grd_rng R6.out hx
                  obtain ⟨b2, o2, e2, g2⟩ := grd_rng R7.out hx
                  subst e1 e2
                  have R1 : Hid (∀ U, Below V7.heap.size V7 U → U.rangeAt b1 (o1 + j * 5) (EO.cells x)) := Lib.hid fun U hU => rng_below g1 hU (Nat.le_refl _)
                  have R2 : Hid (∀ U, Below V7.heap.size V7 U → U.rangeAt b2 (o2 + j * 5) (EO.cells x)) := Lib.hid fun U hU => rng_below g2 hU (Nat.le_refl _)
                  have XOK := Lib.hid (OKS.out x (List.mem_of_getElem? hx))
                  clear g1 g2 hx
                  go_wp2_with fail
                  refine wp_region_held_drew (S := fun U => Below V7.heap.size V7 U) (by kernel_rfl) BW.out.drew (fun hH => ?_)
                  refine wpAnyH_take (i := 0) (v := .slice (some ⟨b1, o1, none⟩) n7 c6) rfl (by kernel_rfl) (by kernel_rfl) (by kernel_rfl) (fun _ _ _ h => h) (.inl ⟨by rfl, ?_⟩) (by assumption) ?_
                  · intro W hW; go_simp
                  try simp only [List.getElem_toArray, List.getElem_cons_zero, Act.put, List.setIfInBounds_toArray, List.set_cons_zero, List.set_cons_succ]
                  refine wpAnyH_take (i := 1) (v := .int .i64 j) rfl (by kernel_rfl) (by kernel_rfl) (by kernel_rfl) (fun _ _ _ h => h) (.inl ⟨by rfl, ?_⟩) (by assumption) ?_
                  · intro W hW; go_simp
                  try simp only [List.getElem_toArray, List.getElem_cons_zero, List.getElem_cons_succ, Act.put, List.setIfInBounds_toArray, List.set_cons_zero, List.set_cons_succ]
                  refine wpAnyH_take (i := 2) (v := .pointer (some ⟨b1, o1 + j * 5, none⟩)) rfl (by kernel_rfl) (by kernel_rfl) (by kernel_rfl) (fun _ _ _ h => h) (.inl ⟨by rfl, ?_⟩) (by assumption) ?_
                  · intro W hW; go_simp
                  try simp only [List.getElem_toArray, List.getElem_cons_zero, List.getElem_cons_succ, Act.put, List.setIfInBounds_toArray, List.set_cons_zero, List.set_cons_succ]
                  refine wpAnyH_take (i := 3) (v := .agg (EO.cells x).toArray) rfl (by kernel_rfl) (by kernel_rfl) (by kernel_rfl) (fun _ _ _ h => h) (gyields_load TO (by rfl) (.tmp 157) rfl b1 (o1 + j * 5) rfl R1.out) (by assumption) ?_
                  try simp only [List.getElem_toArray, List.getElem_cons_zero, List.getElem_cons_succ, Act.put, List.setIfInBounds_toArray, List.set_cons_zero, List.set_cons_succ]
                  refine wpAnyH_take (i := 4) (v := .slice (some ⟨b2, o2, none⟩) n7 c7) rfl (by kernel_rfl) (by kernel_rfl) (by kernel_rfl) (fun _ _ _ h => h) (.inl ⟨by rfl, ?_⟩) (by assumption) ?_
                  · intro W hW; go_simp
                  try simp only [List.getElem_toArray, List.getElem_cons_zero, List.getElem_cons_succ, Act.put, List.setIfInBounds_toArray, List.set_cons_zero, List.set_cons_succ]
                  refine wpAnyH_take (i := 5) (v := .int .i64 j) rfl (by kernel_rfl) (by kernel_rfl) (by kernel_rfl) (fun _ _ _ h => h) (.inl ⟨by rfl, ?_⟩) (by assumption) ?_
                  · intro W hW; go_simp
                  try simp only [List.getElem_toArray, List.getElem_cons_zero, List.getElem_cons_succ, Act.put, List.setIfInBounds_toArray, List.set_cons_zero, List.set_cons_succ]
                  refine wpAnyH_take (i := 6) (v := .pointer (some ⟨b2, o2 + j * 5, none⟩)) rfl (by kernel_rfl) (by kernel_rfl) (by kernel_rfl) (fun _ _ _ h => h) (.inl ⟨by rfl, ?_⟩) (by assumption) ?_
                  · intro W hW; go_simp
                  try simp only [List.getElem_toArray, List.getElem_cons_zero, List.getElem_cons_succ, Act.put, List.setIfInBounds_toArray, List.set_cons_zero, List.set_cons_succ]
                  refine wpAnyH_take (i := 7) (v := .agg (EO.cells x).toArray) rfl (by kernel_rfl) (by kernel_rfl) (by kernel_rfl) (fun _ _ _ h => h) (gyields_load TO (by rfl) (.tmp 161) rfl b2 (o2 + j * 5) rfl R2.out) (by assumption) ?_
                  try simp only [List.getElem_toArray, List.getElem_cons_zero, List.getElem_cons_succ, Act.put, List.setIfInBounds_toArray, List.set_cons_zero, List.set_cons_succ]
                  refine wpAnyH_take (i := 8) (v := .bool false) rfl (by kernel_rfl) (by kernel_rfl) (by kernel_rfl) (fun _ _ _ h => h) (yields_neq_or0 (by rfl) (.tmp 158) (.tmp 162) rfl XOK.out rfl rfl) (by assumption) ?_
                  try simp only [List.getElem_toArray, List.getElem_cons_zero, List.getElem_cons_succ, Act.put, List.setIfInBounds_toArray, List.set_cons_zero, List.set_cons_succ]
                  refine wpAnyH_done (by decide +kernel) ?_ _
                  have BD := Lib.hid hH
                  clear hH
                  go_wp2_with fail
                  go_roundw
                  case rel => exact ⟨j + 1, hlt, by go_num, BD.out⟩
                  case measure => simp [intOf]; omega
                case neg =>
                  obtain rfl : j = n7 := by omega
                  have hd3 : decide ((j : Int) < j) = false := decide_eq_false (by omega)
                  go_wp2_with fail
                  refine (KNF.out _ (BE.out _ BW.out)).mono ?_; rintro e w9 ⟨rfl, qf⟩
                  have BF := Lib.hid qf
                  clear qf
                  go_wp2_with fail
                  go_ret
                  exact ⟨rfl, BF.out⟩
        · have hdl : decide (0 < q.lf) = false := decide_eq_false hl
          have T5 : Hid (Tw Pb w X4 V4 G G2 S2 S2 (t + 1) (t + 1)) := Lib.hid (N6.out hl ▸ T4.out)
          clear r0 r1 r2 N6 N7 RG4 T4 o0
          go_wp2_with (first | ((with_reducible refine wl_store_px q w4.heap.size ZV4.out ?_ ?_ ?_); rfl; rfl; rw [HV4.out]))
          clear r3
          have OA := Lib.hid (T5.out.ors KH.out)
          refine OA.out.mono ?_; rintro e V6 ⟨u6, rfl, ho6, q6⟩
          obtain ⟨a6, n6, c6, rfl⟩ := gown_any ho6
          have T6 := Lib.hid (T5.out.below KH.out q6)
          clear OA T5 q6
          go_wp2_with fail
          have OB := Lib.hid (T6.out.orsb KH.out)
          refine OB.out.mono ?_; rintro e V7 ⟨u7, rfl, ho7, q7⟩
          obtain ⟨a7, n7, c7, rfl⟩ := gown_any ho7
          have R6 : Hid (EO.Rd V7 a6 n6 S2.all) := Lib.hid (grd_below (gown_rd ho6) q7 (Nat.le_refl _))
          have R7 : Hid (EO.Rd V7 a7 n7 S2.all) := Lib.hid (gown_rd ho7)
          have hn67 : n7 = n6 := R7.out.1.symm.trans R6.out.1
          have T7 := Lib.hid (T6.out.below KH.out q7)
          subst hn67
          have LN : Hid (n7 ≤ 200) := Lib.hid (by
            have h1 := R7.out.1
            have h2 := (IV2.out.inv true).len
            have h3 := (IV2.out.inv false).len
            unfold Sd.all at h1
            rw [List.length_append] at h1
            omega)
          have OKS : Hid (∀ x, x ∈ S2.all → x.ok) := Lib.hid fun x hx => (List.mem_append.1 hx).elim ((IV2.out.inv true).ok x) ((IV2.out.inv false).ok x)
          have PCL : Hid (∀ U, Below V7.heap.size V7 U → U.cell? ⟨w3.heap.size, 0, none⟩ = some (.slice p.ta td.length p.tc) ∧ U.cell? ⟨w3.heap.size, 1, none⟩ = some (.slice p.na gn.length p.nc) ∧ U.cell? ⟨w3.heap.size, 2, none⟩ = some (.int .i64 q.fi) ∧ U.cell? ⟨w3.heap.size, 3, none⟩ = some (.int .i64 0)) := Lib.hid fun U hU => PC.out U (Xs.below T7.out.xs hU)
          have QCL : Hid (∀ U, Below V7.heap.size V7 U → U.cell? ⟨w4.heap.size, 0, none⟩ = some (.slice q.ta td.length q.tc) ∧ U.cell? ⟨w4.heap.size, 1, none⟩ = some (.slice q.na gn.length q.nc) ∧ U.cell? ⟨w4.heap.size, 2, none⟩ = some (.int .i64 q.fi) ∧ U.cell? ⟨w4.heap.size, 3, none⟩ = some (.int .i64 q.lf)) := Lib.hid fun U hU => QC.out U (Xs.below T7.out.xs hU)
          have RP : Hid (ET.Rd V7 p.ta td.length td) := Lib.hid (RDP.out V7 T7.out.xs)
          have RQ : Hid (ET.Rd V7 q.ta td.length td) := Lib.hid (RDQ.out V7 T7.out.xs)
          have BE : Hid (∀ U, Below V7.heap.size V7 U → Below w.heap.size w U) := Lib.hid fun U hU => T7.out.bl.trans (hU.mono T7.out.bl.size)
          have B7 := Lib.hid (Below.refl V7.heap.size V7)
          have TLN : Hid (td.length ≤ 100) := Lib.hid TD.out.2
          obtain ⟨s0, s1, s2, s3⟩ := PCL.out V7 B7.out
          obtain ⟨r0, r1, r2, r3⟩ := QCL.out V7 B7.out
          clear OB T6 q7 ho6 ho7 T7 PC QC RDP RDQ IV2
          go_wp2_with fail
          clear s0 s1 s2 s3 r0 r1 r2 r3
          go_loopw [135] (fun i wr => ∃ j : Nat, j ≤ td.length ∧ i = .int .i64 j ∧ Below V7.heap.size V7 wr) (fun i _ => td.length - (intOf i).toNat)
          case atStart => exact ⟨0, Nat.zero_le _, rfl, B7.out⟩
          case round =>
            obtain ⟨j, hj, rfl, hb⟩ := hrel
            have BW := Lib.hid hb
            have tln := TLN.out
            clear hb
            by_cases hlt : j < td.length
            case pos =>
              have hd2 : decide ((j : Int) < td.length) = true := decide_eq_true (by omega)
              have hki : (j : Int) < (td.length : Int) := by omega
              obtain ⟨x, hx⟩ : ∃ x, td[j]? = some x := ⟨td[j]'hlt, List.getElem?_eq_getElem _⟩
              obtain ⟨b1, o1, e1, g1⟩ := grd_rng RP.out hx
              obtain ⟨b2, o2, e2, g2⟩ := grd_rng RQ.out hx
              rw [e1] at PCL
              rw [e2] at QCL
              have R1 : Hid (∀ U, Below V7.heap.size V7 U → U.rangeAt b1 (o1 + j * 4) (ET.cells x)) := Lib.hid fun U hU => rng_below g1 hU (Nat.le_refl _)
              have R2 : Hid (∀ U, Below V7.heap.size V7 U → U.rangeAt b2 (o2 + j * 4) (ET.cells x)) := Lib.hid fun U hU => rng_below g2 hU (Nat.le_refl _)
              have XOK := Lib.hid (TD.out.1 x (List.mem_of_getElem? hx))
              clear g1 g2 hx e1 e2
              go_wp2_with fail
              refine wp_region_held_drew (S := fun U => Below V7.heap.size V7 U) (by kernel_rfl) BW.out.drew (fun hH => ?_)
              refine wpAnyH_take (i := 0) (v := .pointer (some ⟨w3.heap.size, 0, none⟩)) rfl (by kernel_rfl) (by kernel_rfl) (by kernel_rfl) (fun _ _ _ h => h) (.inl ⟨by rfl, ?_⟩) (by assumption) ?_
              · intro W hW; go_simp
              try simp only [List.getElem_toArray, List.getElem_cons_zero, Act.put, List.setIfInBounds_toArray, List.set_cons_zero, List.set_cons_succ]
              refine wpAnyH_take (i := 1) (v := .slice (some ⟨b1, o1, none⟩) td.length p.tc) rfl (by kernel_rfl) (by kernel_rfl) (by kernel_rfl) (fun _ _ _ h => h) (.inl ⟨by rfl, ?_⟩) (by assumption) ?_
              · intro W hW; obtain ⟨c0, _, _, _⟩ := PCL.out W hW; go_simp
              try simp only [List.getElem_toArray, List.getElem_cons_zero, List.getElem_cons_succ, Act.put, List.setIfInBounds_toArray, List.set_cons_zero, List.set_cons_succ]
              refine wpAnyH_take (i := 2) (v := .int .i64 j) rfl (by kernel_rfl) (by kernel_rfl) (by kernel_rfl) (fun _ _ _ h => h) (.inl ⟨by rfl, ?_⟩) (by assumption) ?_
              · intro W hW; go_simp
              try simp only [List.getElem_toArray, List.getElem_cons_zero, List.getElem_cons_succ, Act.put, List.setIfInBounds_toArray, List.set_cons_zero, List.set_cons_succ]
              refine wpAnyH_take (i := 3) (v := .pointer (some ⟨b1, o1 + j * 4, none⟩)) rfl (by kernel_rfl) (by kernel_rfl) (by kernel_rfl) (fun _ _ _ h => h) (.inl ⟨by rfl, ?_⟩) (by assumption) ?_
              · intro W hW; go_simp
              try simp only [List.getElem_toArray, List.getElem_cons_zero, List.getElem_cons_succ, Act.put, List.setIfInBounds_toArray, List.set_cons_zero, List.set_cons_succ]
              refine wpAnyH_take (i := 4) (v := .agg (ET.cells x).toArray) rfl (by kernel_rfl) (by kernel_rfl) (by kernel_rfl) (fun _ _ _ h => h) (gyields_load TT (by rfl) (.tmp 141) rfl b1 (o1 + j * 4) rfl R1.out) (by assumption) ?_
              try simp only [List.getElem_toArray, List.getElem_cons_zero, List.getElem_cons_succ, Act.put, List.setIfInBounds_toArray, List.set_cons_zero, List.set_cons_succ]
              refine wpAnyH_take (i := 5) (v := .pointer (some ⟨w4.heap.size, 0, none⟩)) rfl (by kernel_rfl) (by kernel_rfl) (by kernel_rfl) (fun _ _ _ h => h) (.inl ⟨by rfl, ?_⟩) (by assumption) ?_
              · intro W hW; go_simp
              try simp only [List.getElem_toArray, List.getElem_cons_zero, List.getElem_cons_succ, Act.put, List.setIfInBounds_toArray, List.set_cons_zero, List.set_cons_succ]
              refine wpAnyH_take (i := 6) (v := .slice (some ⟨b2, o2, none⟩) td.length q.tc) rfl (by kernel_rfl) (by kernel_rfl) (by kernel_rfl) (fun _ _ _ h => h) (.inl ⟨by rfl, ?_⟩) (by assumption) ?_
              · intro W hW; obtain ⟨c0, _, _, _⟩ := QCL.out W hW; go_simp
              try simp only [List.getElem_toArray, List.getElem_cons_zero, List.getElem_cons_succ, Act.put, List.setIfInBounds_toArray, List.set_cons_zero, List.set_cons_succ]
              refine wpAnyH_take (i := 7) (v := .int .i64 j) rfl (by kernel_rfl) (by kernel_rfl) (by kernel_rfl) (fun _ _ _ h => h) (.inl ⟨by rfl, ?_⟩) (by assumption) ?_
              · intro W hW; go_simp
              try simp only [List.getElem_toArray, List.getElem_cons_zero, List.getElem_cons_succ, Act.put, List.setIfInBounds_toArray, List.set_cons_zero, List.set_cons_succ]
              refine wpAnyH_take (i := 8) (v := .pointer (some ⟨b2, o2 + j * 4, none⟩)) rfl (by kernel_rfl) (by kernel_rfl) (by kernel_rfl) (fun _ _ _ h => h) (.inl ⟨by rfl, ?_⟩) (by assumption) ?_
              · intro W hW; go_simp
              try simp only [List.getElem_toArray, List.getElem_cons_zero, List.getElem_cons_succ, Act.put, List.setIfInBounds_toArray, List.set_cons_zero, List.set_cons_succ]
              refine wpAnyH_take (i := 9) (v := .agg (ET.cells x).toArray) rfl (by kernel_rfl) (by kernel_rfl) (by kernel_rfl) (fun _ _ _ h => h) (gyields_load TT (by rfl) (.tmp 146) rfl b2 (o2 + j * 4) rfl R2.out) (by assumption) ?_
              try simp only [List.getElem_toArray, List.getElem_cons_zero, List.getElem_cons_succ, Act.put, List.setIfInBounds_toArray, List.set_cons_zero, List.set_cons_succ]
              refine wpAnyH_take (i := 10) (v := .bool false) rfl (by kernel_rfl) (by kernel_rfl) (by kernel_rfl) (fun _ _ _ h => h) (yields_neq_td0 (by rfl) (.tmp 142) (.tmp 147) rfl XOK.out rfl rfl) (by assumption) ?_
              try simp only [List.getElem_toArray, List.getElem_cons_zero, List.getElem_cons_succ, Act.put, List.setIfInBounds_toArray, List.set_cons_zero, List.set_cons_succ]
              refine wpAnyH_done (by decide +kernel) ?_ _
              have BD := Lib.hid hH
              clear hH
              go_wp2_with fail
              go_roundw
              case rel => exact ⟨j + 1, hlt, by go_num, BD.out⟩
              case measure => simp [intOf]; omega
            case neg =>
              obtain rfl : j = td.length := by omega
              have hd2 : decide ((td.length : Int) < td.length) = false := decide_eq_false (by omega)
              go_wp2_with fail
              go_loopw [152] (fun i wr => ∃ j : Nat, j ≤ n7 ∧ i = .int .i64 j ∧ Below V7.heap.size V7 wr) (fun i _ => n7 - (intOf i).toNat)
              case atStart => exact ⟨0, Nat.zero_le _, rfl, BW.out⟩
              case round =>
                obtain ⟨j, hj, rfl, hb⟩ := hrel
                have BW := Lib.hid hb
                have lnn := LN.out
                clear hb
                by_cases hlt : j < n7
                case pos =>
                  have hd3 : decide ((j : Int) < n7) = true := decide_eq_true (by omega)
                  have hki : (j : Int) < (n7 : Int) := by omega
                  obtain ⟨x, hx⟩ : ∃ x, S2.all[j]? = some x := ⟨S2.all[j]'(by rw [R7.out.1]; exact hlt), List.getElem?_eq_getElem _⟩
                  obtain ⟨b1, o1, e1, g1⟩ := grd_rng R6.out hx
                  obtain ⟨b2, o2, e2, g2⟩ := grd_rng R7.out hx
                  subst e1 e2
                  have R1 : Hid (∀ U, Below V7.heap.size V7 U → U.rangeAt b1 (o1 + j * 5) (EO.cells x)) := Lib.hid fun U hU => rng_below g1 hU (Nat.le_refl _)
                  have R2 : Hid (∀ U, Below V7.heap.size V7 U → U.rangeAt b2 (o2 + j * 5) (EO.cells x)) := Lib.hid fun U hU => rng_below g2 hU (Nat.le_refl _)
                  have XOK := Lib.hid (OKS.out x (List.mem_of_getElem? hx))
                  clear g1 g2 hx
                  go_wp2_with fail
                  refine wp_region_held_drew (S := fun U => Below V7.heap.size V7 U) (by kernel_rfl) BW.out.drew (fun hH => ?_)
                  refine wpAnyH_take (i := 0) (v := .slice (some ⟨b1, o1, none⟩) n7 c6) rfl (by kernel_rfl) (by kernel_rfl) (by kernel_rfl) (fun _ _ _ h => h) (.inl ⟨by rfl, ?_⟩) (by assumption) ?_
                  · intro W hW; go_simp
                  try simp only [List.getElem_toArray, List.getElem_cons_zero, Act.put, List.setIfInBounds_toArray, List.set_cons_zero, List.set_cons_succ]
                  refine wpAnyH_take (i := 1) (v := .int .i64 j) rfl (by kernel_rfl) (by kernel_rfl) (by kernel_rfl) (fun _ _ _ h => h) (.inl ⟨by rfl, ?_⟩) (by assumption) ?_
                  · intro W hW; go_simp
                  try simp only [List.getElem_toArray, List.getElem_cons_zero, List.getElem_cons_succ, Act.put, List.setIfInBounds_toArray, List.set_cons_zero, List.set_cons_succ]
                  refine wpAnyH_take (i := 2) (v := .pointer (some ⟨b1, o1 + j * 5, none⟩)) rfl (by kernel_rfl) (by kernel_rfl) (by kernel_rfl) (fun _ _ _ h => h) (.inl ⟨by rfl, ?_⟩) (by assumption) ?_
                  · intro W hW; go_simp
                  try simp only [List.getElem_toArray, List.getElem_cons_zero, List.getElem_cons_succ, Act.put, List.setIfInBounds_toArray, List.set_cons_zero, List.set_cons_succ]
                  refine wpAnyH_take (i := 3) (v := .agg (EO.cells x).toArray) rfl (by kernel_rfl) (by kernel_rfl) (by kernel_rfl) (fun _ _ _ h => h) (gyields_load TO (by rfl) (.tmp 157) rfl b1 (o1 + j * 5) rfl R1.out) (by assumption) ?_
                  try simp only [List.getElem_toArray, List.getElem_cons_zero, List.getElem_cons_succ, Act.put, List.setIfInBounds_toArray, List.set_cons_zero, List.set_cons_succ]
                  refine wpAnyH_take (i := 4) (v := .slice (some ⟨b2, o2, none⟩) n7 c7) rfl (by kernel_rfl) (by kernel_rfl) (by kernel_rfl) (fun _ _ _ h => h) (.inl ⟨by rfl, ?_⟩) (by assumption) ?_
                  · intro W hW; go_simp
                  try simp only [List.getElem_toArray, List.getElem_cons_zero, List.getElem_cons_succ, Act.put, List.setIfInBounds_toArray, List.set_cons_zero, List.set_cons_succ]
                  refine wpAnyH_take (i := 5) (v := .int .i64 j) rfl (by kernel_rfl) (by kernel_rfl) (by kernel_rfl) (fun _ _ _ h => h) (.inl ⟨by rfl, ?_⟩) (by assumption) ?_
                  · intro W hW; go_simp
                  try simp only [List.getElem_toArray, List.getElem_cons_zero, List.getElem_cons_succ, Act.put, List.setIfInBounds_toArray, List.set_cons_zero, List.set_cons_succ]
                  refine wpAnyH_take (i := 6) (v := .pointer (some ⟨b2, o2 + j * 5, none⟩)) rfl (by kernel_rfl) (by kernel_rfl) (by kernel_rfl) (fun _ _ _ h => h) (.inl ⟨by rfl, ?_⟩) (by assumption) ?_
                  · intro W hW; go_simp
                  try simp only [List.getElem_toArray, List.getElem_cons_zero, List.getElem_cons_succ, Act.put, List.setIfInBounds_toArray, List.set_cons_zero, List.set_cons_succ]
                  refine wpAnyH_take (i := 7) (v := .agg (EO.cells x).toArray) rfl (by kernel_rfl) (by kernel_rfl) (by kernel_rfl) (fun _ _ _ h => h) (gyields_load TO (by rfl) (.tmp 161) rfl b2 (o2 + j * 5) rfl R2.out) (by assumption) ?_
                  try simp only [List.getElem_toArray, List.getElem_cons_zero, List.getElem_cons_succ, Act.put, List.setIfInBounds_toArray, List.set_cons_zero, List.set_cons_succ]
                  refine wpAnyH_take (i := 8) (v := .bool false) rfl (by kernel_rfl) (by kernel_rfl) (by kernel_rfl) (fun _ _ _ h => h) (yields_neq_or0 (by rfl) (.tmp 158) (.tmp 162) rfl XOK.out rfl rfl) (by assumption) ?_
                  try simp only [List.getElem_toArray, List.getElem_cons_zero, List.getElem_cons_succ, Act.put, List.setIfInBounds_toArray, List.set_cons_zero, List.set_cons_succ]
                  refine wpAnyH_done (by decide +kernel) ?_ _
                  have BD := Lib.hid hH
                  clear hH
                  go_wp2_with fail
                  go_roundw
                  case rel => exact ⟨j + 1, hlt, by go_num, BD.out⟩
                  case measure => simp [intOf]; omega
                case neg =>
                  obtain rfl : j = n7 := by omega
                  have hd3 : decide ((j : Int) < j) = false := decide_eq_false (by omega)
                  go_wp2_with fail
                  refine (KNF.out _ (BE.out _ BW.out)).mono ?_; rintro e w9 ⟨rfl, qf⟩
                  have BF := Lib.hid qf
                  clear qf
                  go_wp2_with fail
                  go_ret
                  exact ⟨rfl, BF.out⟩
theorem now7_all {Pb : PbT} (K : BookK Pb) (A : Option Addr) (n c : Nat) (l : List Op7) (o : Or) (w : World) (hr : EOp.Rd w A n l) (hok : ∀ x, x ∈ l → x.ok) (hm : n ≤ maxLen) (ok : o.ok) :
    Calls Try.prog 8 #[.slice A n c, .agg (EO.cells o).toArray] w fun e w' => e = .returned (.bool true) ∧ Below w.heap.size w w' := by
  unfold maxLen at hm
  rcases Nat.lt_or_ge 100 n with h | h
  · exact now7_out K A n c o w h (by omega)
  · exact now7_in K A n c l o w hr hok h ok
end Go.Proofs.Ytdcjgcjnfcahkaa
