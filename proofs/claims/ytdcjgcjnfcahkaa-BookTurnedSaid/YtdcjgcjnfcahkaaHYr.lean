/- The walk of the statement BookTurned, given the program's book. -/
import Derived.Test.YtdcjgcjnfcahkaaHYo
namespace Go.Proofs.Ytdcjgcjnfcahkaa
open Go.RowKit Go.Shelf
set_option linter.unusedVariables false
set_option linter.unusedSimpArgs false

set_option maxRecDepth 100000 in
set_option maxHeartbeats 2000000 in
theorem turned7_out {Pb : PbT} (K : BookK Pb) (A : Option Addr) (n c : Nat) (w : World) (hn : 100 < n) (hm : n ≤ 9223372036854775807) :
    Calls Try.prog 7 #[.slice A n c] w fun e w' => e = .returned (.bool true) ∧ Below w.heap.size w w' := by
  have KN := Lib.hid (fun W => known7_any K W)
  have NW := Lib.hid (fun W => K.new W)
  have hd : decide (100 < (n : Int)) = true := decide_eq_true (by omega)
  clear K
  go_enter Try.func7, Try.ntmps7
  go_wp2_with fail
  refine (NW.out w).mono ?_; rintro e w1 ⟨G, F, rfl, hp, q1, hF⟩
  have Q1 := Lib.hid q1
  clear q1 hp hF
  go_wp2_with fail
  refine (NW.out w1).mono ?_; rintro e w1' ⟨G2, F2, rfl, hp, q1, hF⟩
  have Q1 := Lib.hid (Q1.out.trans (q1.mono Q1.out.size))
  clear q1 hp hF
  go_wp2_with fail
  refine (KN.out _).mono ?_; rintro e w2 ⟨rfl, q⟩
  have Q := Lib.hid (Q1.out.trans (q.mono Q1.out.size))
  clear q
  go_wp2_with fail
  go_ret
  exact ⟨rfl, Q.out⟩
theorem zero_tr (w : World) : (zeroValue 63).run Try.prog w = .ok (.agg (ET.cells zeroTd).toArray) w := by kernel_rfl
theorem put_tr (w : World) (x : Td) : ∃ W3, (w.alloc (.cells (ET.cells zeroTd).toArray 63)).setRow w.heap.size (ET.cells x).toArray = W3 ∧ Below w.heap.size w W3 ∧ ET.Bx 63 W3 w.heap.size x ∧ ET.Bx 63 (w.alloc (.cells (ET.cells zeroTd).toArray 63)) w.heap.size zeroTd := by
  have b := below_row0 (cs := (ET.cells x).toArray) (below_new w (.cells (ET.cells zeroTd).toArray 63)) (Nat.le_refl _)
  exact ⟨_, rfl, b, gbx_set (gbx_new (E := ET) (te := 63) w zeroTd), gbx_new w zeroTd⟩
theorem two_zpx (w : World) : ∃ W2, (w.alloc (.cells (EPx.cells zeroPx).toArray 49)).alloc (.cells (EPx.cells zeroPx).toArray 49) = W2 ∧ Below w.heap.size w W2 ∧ EPx.Bx 49 W2 w.heap.size zeroPx ∧ EPx.Bx 49 W2 (w.heap.size + 1) zeroPx :=
  ⟨_, rfl, ((Below.refl _ w).alloc (Nat.le_refl _) _).alloc (by simp) _, heap_alloc2_old w _ _, heap_alloc2_new w _ _⟩
set_option maxRecDepth 100000 in
set_option maxHeartbeats 20000000 in
theorem turned7_in {Pb : PbT} (K : BookK Pb) (A : Option Addr) (n c : Nat) (l : List Op7) (w : World) (hr : EOp.Rd w A n l) (hok : ∀ x, x ∈ l → x.ok) (hn : n ≤ 100) :
    Calls Try.prog 7 #[.slice A n c] w fun e w' => e = .returned (.bool true) ∧ Below w.heap.size w w' := by
  have KN := Lib.hid (fun W => known7_any K W)
  have NW := Lib.hid (fun W => K.new W)
  have KH := Lib.hid K
  have hd100 : decide (100 < (n : Int)) = false := decide_eq_false (by omega)
  have HR := Lib.hid hr
  have HOK := Lib.hid hok
  have hpx := zero_px
  have hzop := zero_op7
  have hztd := zero_tr
  clear K hr hok
  go_enter Try.func7, Try.ntmps7
  go_wp2_with fail
  refine (NW.out w).mono ?_; rintro e w1 ⟨G, F, rfl, hp, q1, hF⟩
  have C0 : Hid (On Pb w [] w1 G (fun _ => []) 0) := Lib.hid (on_new KH.out (Below.refl _ _) (fun p hp => by cases hp) hp q1 hF)
  clear q1 hp hF
  go_wp2_with fail
  refine (NW.out w1).mono ?_; rintro e w1' ⟨G2, F2, rfl, hp, q1, hF⟩
  have D0 : Hid (Tw Pb w [] w1' G G2 (fun _ => []) (tuS fun _ => []) 0 0) := Lib.hid (C0.out.two KH.out q1 hp hF)
  clear q1 hp hF NW C0
  go_wp2_with fail
  go_loopw [38] (fun i wr => ∃ (k : Nat) (S : Sd) (t : Nat), k ≤ n ∧ i = .int .i64 k ∧ Tw Pb w [] wr G G2 S (tuS S) t t ∧ t ≤ k) (fun i _ => n - (intOf i).toNat)
  case atStart => exact ⟨0, _, 0, Nat.zero_le _, rfl, D0.out, Nat.le_refl _⟩
  case round =>
    obtain ⟨k, S, t, hk, rfl, hc, ht⟩ := hrel
    have CC := Lib.hid hc
    clear hc D0
    by_cases hlt : k < n
    case neg =>
      obtain rfl : k = n := by omega
      have hd : decide ((k : Int) < k) = false := decide_eq_false (by omega)
      have BL := Lib.hid CC.out.bl
      go_wp2_with fail
      refine (KN.out _).mono ?_; rintro e w9 ⟨rfl, qf⟩
      have BF := Lib.hid (BL.out.trans (qf.mono BL.out.size))
      clear qf
      go_wp2_with fail
      go_ret
      exact ⟨rfl, BF.out⟩
    case pos =>
    have hd : decide ((k : Int) < n) = true := decide_eq_true (by omega)
    have hki : (k : Int) < (n : Int) := by omega
    have IV := Lib.hid (CC.out.inv KH.out)
    obtain ⟨x, hx⟩ : ∃ x, l[k]? = some x := ⟨l[k]'(by have := HR.out.1; omega), List.getElem?_eq_getElem _⟩
    obtain ⟨b, o', rfl, hrg⟩ := grd_rng HR.out hx
    have OKX := Lib.hid (HOK.out x (List.mem_of_getElem? hx))
    have RG : Hid (wr.rangeAt b (o' + k * 7) (EOp.cells x)) := Lib.hid (rng_below hrg CC.out.bl (Nat.le_refl _))
    obtain ⟨V, hV, bV, yV, zV, sV⟩ := put_op wr x
    have T0 : Hid (Tw Pb w [opB wr.heap.size x] V G G2 S (tuS S) t t) := Lib.hid (CC.out.push KH.out bV (Y := [opB wr.heap.size x]) (one_in yV) (fun y hy => by rw [List.mem_singleton.1 hy]; exact Nat.le_refl _))
    have HV := Lib.hid hV
    have ZV := Lib.hid zV
    have YV := Lib.hid yV
    have SV := Lib.hid sV
    have WR := Lib.hid CC.out.bl.size
    have v4 : V.cell? ⟨wr.heap.size, 4, none⟩ = some (.int .i64 x.o.pr) := gbx_cell yV 4
    have STL : Hid (Tw Pb w [] V G G2 S (tuS S) t t) := Lib.hid (T0.out.less (fun y hy => by cases hy))
    clear hx hrg hV bV yV zV sV CC
    by_cases hp1 : x.o.pr < 1
    · have d1 : decide (x.o.pr < 1) = true := decide_eq_true hp1
      go_wp2_with (first | ((with_reducible refine gwl_load (d := some 44) TOp b (o' + k * 7) RG.out ?_ ?_ ?_); rfl; rfl) | (refine gwl_store TOp x wr.heap.size ZV.out rfl rfl ?_; rw [HV.out]))
      go_roundw
      case rel => exact ⟨k + 1, S, t, hlt, by go_num, STL.out, by omega⟩
      case measure => simp [intOf]; omega
    have d1 : decide (x.o.pr < 1) = false := decide_eq_false hp1
    by_cases hp2 : 1000 < x.o.pr
    · have d2 : decide (1000 < x.o.pr) = true := decide_eq_true hp2
      go_wp2_with (first | ((with_reducible refine gwl_load (d := some 44) TOp b (o' + k * 7) RG.out ?_ ?_ ?_); rfl; rfl) | (refine gwl_store TOp x wr.heap.size ZV.out rfl rfl ?_; rw [HV.out]))
      go_roundw
      case rel => exact ⟨k + 1, S, t, hlt, by go_num, STL.out, by omega⟩
      case measure => simp [intOf]; omega
    have d2 : decide (1000 < x.o.pr) = false := decide_eq_false hp2
    have PR : Hid (Pr7 x.o.pr) := Lib.hid ⟨by omega, by omega⟩
    obtain ⟨V2, hV2, bV2, yV2, zV2, sV2⟩ := put_op V x
    have y6 : EOp.Bx 34 V2 wr.heap.size x := gbx_below YV.out bV2
    have HV2 := Lib.hid hV2
    have ZV2 := Lib.hid zV2
    have RGV := Lib.hid (gbx_rng YV.out)
    have hne : wr.heap.size ≠ V.heap.size := by have := SV.out; omega
    have a3 : V2.cell? ⟨wr.heap.size, 3, none⟩ = some (.bool x.o.bu) := gbx_cell y6 3
    have b3 : V2.cell? ⟨V.heap.size, 3, none⟩ = some (.bool x.o.bu) := gbx_cell yV2 3
    have f3 : V2.frozen? ⟨V.heap.size, 3, none⟩ = false := gbx_fz yV2 3
    have y7 : EOp.Bx 34 (V2.setCell ⟨V.heap.size, 3, none⟩ (.bool !x.o.bu)) V.heap.size ⟨x.kd, ⟨x.o.nu, x.o.ac, !x.o.bu, x.o.pr, x.o.le⟩, x.k⟩ := gbx_put yV2 rfl
    have y6' : EOp.Bx 34 (V2.setCell ⟨V.heap.size, 3, none⟩ (.bool !x.o.bu)) wr.heap.size x := (heap_setCell_other V2 ⟨V.heap.size, 3, none⟩ _ _ hne).trans y6
    have a4 : (V2.setCell ⟨V.heap.size, 3, none⟩ (.bool !x.o.bu)).cell? ⟨wr.heap.size, 4, none⟩ = some (.int .i64 x.o.pr) := gbx_cell y6' 4
    have b4 : (V2.setCell ⟨V.heap.size, 3, none⟩ (.bool !x.o.bu)).cell? ⟨V.heap.size, 4, none⟩ = some (.int .i64 x.o.pr) := gbx_cell y7 4
    have f4 : (V2.setCell ⟨V.heap.size, 3, none⟩ (.bool !x.o.bu)).frozen? ⟨V.heap.size, 4, none⟩ = false := gbx_fz y7 4
    have y7' : EOp.Bx 34 ((V2.setCell ⟨V.heap.size, 3, none⟩ (.bool !x.o.bu)).setCell ⟨V.heap.size, 4, none⟩ (.int .i64 (1001 - x.o.pr))) V.heap.size (tuX x) := gbx_put y7 rfl
    have y6'' : EOp.Bx 34 ((V2.setCell ⟨V.heap.size, 3, none⟩ (.bool !x.o.bu)).setCell ⟨V.heap.size, 4, none⟩ (.int .i64 (1001 - x.o.pr))) wr.heap.size x := (heap_setCell_other _ ⟨V.heap.size, 4, none⟩ _ _ hne).trans y6'
    have a0 : ((V2.setCell ⟨V.heap.size, 3, none⟩ (.bool !x.o.bu)).setCell ⟨V.heap.size, 4, none⟩ (.int .i64 (1001 - x.o.pr))).cell? ⟨wr.heap.size, 0, none⟩ = some (.int .i64 x.kd) := gbx_cell y6'' 0
    obtain ⟨W3, hW3⟩ : ∃ W3, ((V2.setCell ⟨V.heap.size, 3, none⟩ (.bool !x.o.bu)).setCell ⟨V.heap.size, 4, none⟩ (.int .i64 (1001 - x.o.pr))) = W3 := ⟨_, rfl⟩
    have sW3 : W3.heap.size = V2.heap.size := by rw [← hW3]; simp
    have bW3 : Below V.heap.size V W3 := by rw [← hW3]; exact (bV2.setCell (Nat.le_refl _) _).setCell (Nat.le_refl _) _
    rw [hW3] at y7' y6''
    have T3 : Hid (Tw Pb w [opB V.heap.size (tuX x), opB wr.heap.size x] W3 G G2 S (tuS S) t t) := Lib.hid (T0.out.push KH.out bW3 (Y := [opB V.heap.size (tuX x)]) (one_in y7') (fun y hy => by rw [List.mem_singleton.1 hy]; exact Nat.le_refl _))
    have HW3 := Lib.hid hW3
    have SW3 := Lib.hid sW3
    have SV2 := Lib.hid sV2
    have Y6 := Lib.hid y6''
    have Y7 := Lib.hid y7'
    have b1 : -9223372036854775808 ≤ 1001 - x.o.pr := by omega
    have b2 : 1001 - x.o.pr ≤ 9223372036854775807 := by omega
    have OKT := Lib.hid (tuX_ok OKX.out PR.out)
    clear hV2 bV2 yV2 zV2 sV2 y6 y7 y6' y7' y6'' hne sW3 bW3 hp1 hp2 STL T0 YV
    by_cases hk1 : x.kd = 1
    · have KD := Lib.hid hk1
      rw [hk1] at a0
      clear hk1
      obtain ⟨W4, hW4, b4', z8, z9⟩ := two_zpx W3
      rw [SW3.out] at z8 z9
      have u6 : EOp.Bx 34 W4 wr.heap.size x := gbx_below Y6.out b4'
      have hL : ((((V2.setCell ⟨V.heap.size, 3, none⟩ (.bool !x.o.bu)).setCell ⟨V.heap.size, 4, none⟩ (.int .i64 (1001 - x.o.pr))).alloc (.cells (EPx.cells zeroPx).toArray 49)).alloc (.cells (EPx.cells zeroPx).toArray 49)) = W4 := by rw [hW3]; exact hW4
      have l0 : ((((V2.setCell ⟨V.heap.size, 3, none⟩ (.bool !x.o.bu)).setCell ⟨V.heap.size, 4, none⟩ (.int .i64 (1001 - x.o.pr))).alloc (.cells (EPx.cells zeroPx).toArray 49)).alloc (.cells (EPx.cells zeroPx).toArray 49)).cell? ⟨wr.heap.size, 0, none⟩ = some (.int .i64 1) := by rw [hL, gbx_cell u6 0, ← KD.out]; rfl
      have RGO : Hid (((((V2.setCell ⟨V.heap.size, 3, none⟩ (.bool !x.o.bu)).setCell ⟨V.heap.size, 4, none⟩ (.int .i64 (1001 - x.o.pr))).alloc (.cells (EPx.cells zeroPx).toArray 49)).alloc (.cells (EPx.cells zeroPx).toArray 49)).rangeAt wr.heap.size 1 (EO.cells x.o)) := Lib.hid (by rw [hL]; exact op_or (gbx_rng u6))
      have l6 : ((((V2.setCell ⟨V.heap.size, 3, none⟩ (.bool !x.o.bu)).setCell ⟨V.heap.size, 4, none⟩ (.int .i64 (1001 - x.o.pr))).alloc (.cells (EPx.cells zeroPx).toArray 49)).alloc (.cells (EPx.cells zeroPx).toArray 49)).cell? ⟨wr.heap.size, 6, none⟩ = some (.int .u8 x.k) := by rw [hL]; exact gbx_cell u6 6
      have T4 : Hid (Tw Pb w [pxB V2.heap.size zeroPx, pxB (V2.heap.size + 1) zeroPx, opB V.heap.size (tuX x), opB wr.heap.size x] W4 G G2 S (tuS S) t t) := Lib.hid (T3.out.push KH.out b4' (Y := [pxB V2.heap.size zeroPx, pxB (V2.heap.size + 1) zeroPx]) (Xs.cons (one_in z9) z8) (fun y hy => by
        rcases List.mem_cons.1 hy with rfl | hy
        · rw [SW3.out]; exact Nat.le_refl _
        · rw [List.mem_singleton.1 hy, SW3.out]; exact Nat.le_succ _))
      have HL := Lib.hid hL
      have GE : Hid (w.heap.size ≤ V2.heap.size ∧ wr.heap.size < V2.heap.size ∧ V.heap.size < V2.heap.size) := Lib.hid (by have := WR.out; have := SV.out; have := SV2.out; omega)
      clear hW4 b4' z8 z9 u6 hL hW3
      go_wp2_with (first | ((with_reducible refine gwl_load (d := some 44) TOp b (o' + k * 7) RG.out ?_ ?_ ?_); rfl; rfl) | (refine gwl_store TOp x wr.heap.size ZV.out rfl rfl ?_; rw [HV.out]) | ((with_reducible refine gwl_load (d := some 55) TOp wr.heap.size 0 RGV.out ?_ ?_ ?_); rfl; rfl) | (refine gwl_store TOp x V.heap.size ZV2.out rfl rfl ?_; rw [HV2.out]) | ((with_reducible refine gwl_load TO wr.heap.size 1 RGO.out ?_ ?_ ?_); rfl; rfl))
      rw [HL.out]
      clear a0 a3 a4 b3 b4 f3 f4 v4 l0 l6
      refine (T4.out.p2 KH.out (fun A h => KH.out.place (k := x.k) h OKX.out.o (by omega))).mono ?_; rintro e w5 ⟨p, rfl, pp, pi, R5, r5, s5, t5⟩
      have z5 : EPx.Bx 49 w5 V2.heap.size zeroPx := Xs.px t5.xs (by simp)
      obtain ⟨t5, pi⟩ := t5.pset KH.out s5 pi (b := V2.heap.size) (z := zeroPx) (Y := [pxB (V2.heap.size + 1) zeroPx, opB V.heap.size (tuX x), opB wr.heap.size x]) (by simp) GE.out.1 (fun y hy => by
        have := GE.out
        rcases List.mem_cons.1 hy with rfl | hy
        · exact ⟨by simp, by show V2.heap.size + 1 ≠ V2.heap.size; omega⟩
        · rcases List.mem_cons.1 hy with rfl | hy
          · exact ⟨by simp, by show V.heap.size ≠ V2.heap.size; omega⟩
          · rw [List.mem_singleton.1 hy]; exact ⟨by simp, by show wr.heap.size ≠ V2.heap.size; omega⟩)
      obtain ⟨V5, hV5⟩ : ∃ V5, w5.setRow V2.heap.size (EPx.cells p).toArray = V5 := ⟨_, rfl⟩
      rw [hV5] at t5 pi
      have S5 : Hid (∀ y, y ∈ R5 → y.1 ≠ V2.heap.size + 1) := Lib.hid (fun y hy e => pi.ne (k := V2.heap.size + 1) (Xs.px (p := zeroPx) (b := V2.heap.size + 1) t5.xs (by simp)) (by decide) (by decide) (e ▸ s5 y hy))
      have T5 := Lib.hid t5
      have PI5 := Lib.hid pi
      have PP := Lib.hid pp
      have R5' := Lib.hid r5
      have HV5 := Lib.hid hV5
      have Z5 := Lib.hid z5
      have u7 := Xs.op (b := V.heap.size) (x := tuX x) T5.out.xs (by simp)
      have RG7 := Lib.hid (op_or (gbx_rng u7))
      have m6 : V5.cell? ⟨V.heap.size, 6, none⟩ = some (.int .u8 x.k) := gbx_cell u7 6
      clear t5 pi pp r5 s5 hV5 z5 u7 T4 T3
      go_wp2_with (first | ((with_reducible refine wl_store_px p V2.heap.size Z5.out ?_ ?_ ?_); rfl; rfl; rw [HV5.out]) | ((with_reducible refine gwl_load TO V.heap.size 1 RG7.out ?_ ?_ ?_); rfl; rfl))
      refine (T5.out.q2 KH.out (fun A h => KH.out.place (k := x.k) h OKT.out.o (by omega))).mono ?_; rintro e w6 ⟨q, rfl, qq, qi, R6, r6, s6, t6⟩
      have z6 : EPx.Bx 49 w6 (V2.heap.size + 1) zeroPx := Xs.px t6.xs (by simp)
      obtain ⟨t6, qi⟩ := t6.pset KH.out s6 qi (b := V2.heap.size + 1) (z := zeroPx) (Y := pxB V2.heap.size p :: R5) (by simp) (Nat.le_trans GE.out.1 (Nat.le_succ _)) (fun y hy => by
        rcases List.mem_cons.1 hy with rfl | hy
        · exact ⟨by simp, by show V2.heap.size ≠ V2.heap.size + 1; omega⟩
        · exact ⟨by simp [hy], fun e => S5.out y hy e⟩)
      obtain ⟨V6, hV6⟩ : ∃ V6, w6.setRow (V2.heap.size + 1) (EPx.cells q).toArray = V6 := ⟨_, rfl⟩
      rw [hV6] at t6 qi
      obtain ⟨X6, hX6⟩ : ∃ X6 : Xs, pxB (V2.heap.size + 1) q :: (R6 ++ (pxB V2.heap.size p :: R5)) = X6 := ⟨_, rfl⟩
      rw [hX6] at t6
      have T6 := Lib.hid t6
      have PS : Hid (Tw Pb w X6 V6 G G2 (playS S x) (tuS (playS S x)) (t + 1) (t + 1)) := Lib.hid (t6.turn (by rw [playS_1 KD.out]; exact placeS_tu IV.out.1 PR.out) (playS_1 KD.out).symm)
      have XP : Hid (pxB V2.heap.size p ∈ X6) := Lib.hid (hX6 ▸ by simp)
      have XQ : Hid (pxB (V2.heap.size + 1) q ∈ X6) := Lib.hid (hX6 ▸ by simp)
      have PI : Hid (∀ U, X6.in U → p.Is U W4.heap.size (placeP S x.o x.k).td (placeP S x.o x.k).gn) := Lib.hid fun U hU => PI5.out.at (X := pxB V2.heap.size p :: R5) (fun k hk => by obtain ⟨o, ho⟩ := R5'.out k hk; exact ⟨o, by simp [ho]⟩) (fun y hy => T5.out.xs y (by simp at hy ⊢; rcases hy with hy | hy <;> simp [hy])) (fun y hy => hU y (hX6 ▸ by simp at hy ⊢; rcases hy with hy | hy <;> simp [hy]))
      have QI : Hid (∀ U, X6.in U → q.Is U V5.heap.size ((placeP S x.o x.k).td.map tut) (placeP S x.o x.k).gn) := Lib.hid fun U hU => by
        have h := qi.at (X := X6) (fun k hk => by obtain ⟨o, ho⟩ := r6 k hk; exact ⟨o, hX6 ▸ by simp [ho]⟩) t6.xs hU
        rw [show placeP (tuS S) (tuX x).o x.k = tuP (placeP S x.o x.k) from placeP_tu IV.out.1 PR.out] at h
        exact h
      have FQ : Hid (p.fi = q.fi ∧ p.lf = q.lf) := Lib.hid (by
        rw [show placeP (tuS S) (tuX x).o x.k = tuP (placeP S x.o x.k) from placeP_tu IV.out.1 PR.out] at qq
        exact ⟨PP.out.1.trans qq.1.symm, PP.out.2.trans qq.2.symm⟩)
      have EA : placeA (tuS S) (tuX x).o x.k = placeA S x.o x.k := placeA_tu IV.out.1 PR.out
      rw [EA]
      clear EA
      generalize placeA S x.o x.k = ea
      have TD := Lib.hid (td_ok (S := S) (o := x.o) (k := x.k) IV.out.1)
      have HV6 := Lib.hid hV6
      have Z6 := Lib.hid z6
      clear t6 qi qq r6 s6 hV6 z6 hX6 T6 T5 PI5 PP R5' S5
      obtain ⟨td, htd⟩ : ∃ td, (placeP S x.o x.k).td = td := ⟨_, rfl⟩
      obtain ⟨gn, hgn⟩ : ∃ gn, (placeP S x.o x.k).gn = gn := ⟨_, rfl⟩
      rw [htd, hgn] at PI QI
      rw [htd] at TD
      have hfi := FQ.out.1
      have hlf := FQ.out.2
      have PC : Hid (∀ U, X6.in U → U.cell? ⟨V2.heap.size, 0, none⟩ = some (.slice p.ta td.length p.tc) ∧ U.cell? ⟨V2.heap.size, 1, none⟩ = some (.slice p.na gn.length p.nc) ∧ U.cell? ⟨V2.heap.size, 2, none⟩ = some (.int .i64 q.fi) ∧ U.cell? ⟨V2.heap.size, 3, none⟩ = some (.int .i64 q.lf)) := Lib.hid fun U hU => by
        have h := Xs.px hU XP.out
        refine ⟨?_, ?_, ?_, ?_⟩
        · rw [← (PI.out U hU).tl]; exact gbx_cell h 0
        · rw [← (PI.out U hU).nl]; exact gbx_cell h 1
        · rw [← hfi]; exact gbx_cell h 2
        · rw [← hlf]; exact gbx_cell h 3
      have QC : Hid (∀ U, X6.in U → U.cell? ⟨V2.heap.size + 1, 0, none⟩ = some (.slice q.ta td.length q.tc) ∧ U.cell? ⟨V2.heap.size + 1, 1, none⟩ = some (.slice q.na gn.length q.nc) ∧ U.cell? ⟨V2.heap.size + 1, 2, none⟩ = some (.int .i64 q.fi) ∧ U.cell? ⟨V2.heap.size + 1, 3, none⟩ = some (.int .i64 q.lf)) := Lib.hid fun U hU => by
        have h := Xs.px hU XQ.out
        refine ⟨?_, ?_, ?_, ?_⟩
        · rw [show td.length = q.tn by rw [(QI.out U hU).tl, List.length_map]]; exact gbx_cell h 0
        · rw [← (QI.out U hU).nl]; exact gbx_cell h 1
        · exact gbx_cell h 2
        · exact gbx_cell h 3
      have RDP : Hid (∀ U, X6.in U → ET.Rd U p.ta td.length td) := Lib.hid fun U hU => by
        have h := gown_rd (PI.out U hU).to
        rwa [(PI.out U hU).tl] at h
      have RDQ : Hid (∀ U, X6.in U → ET.Rd U q.ta td.length (td.map tut)) := Lib.hid fun U hU => by
        have h := gown_rd (QI.out U hU).to
        rwa [(QI.out U hU).tl, List.length_map] at h
      obtain ⟨s0, s1, s2, s3⟩ := PC.out V6 PS.out.xs
      obtain ⟨r0, r1, r2, r3⟩ := QC.out V6 PS.out.xs
      have TLN : Hid (td.length ≤ 100) := Lib.hid TD.out.2
      clear hfi hlf FQ PI QI htd hgn XP XQ m6
      go_wp2_with ((with_reducible refine wl_store_px q (V2.heap.size + 1) Z6.out ?_ ?_ ?_); rfl; rfl; rw [HV6.out])
      clear s0 s1 s2 s3 r0 r1 r2 r3
      go_loopw [166] (fun i wr2 => ∃ j : Nat, j ≤ td.length ∧ i = .int .i64 j ∧ Below V6.heap.size V6 wr2) (fun i _ => td.length - (intOf i).toNat)
      case atStart => exact ⟨0, Nat.zero_le _, rfl, Below.refl _ _⟩
      case round =>
        obtain ⟨j, hj, rfl, hb⟩ := hrel
        have BW := Lib.hid hb
        have T7 : Hid (Tw Pb w X6 wr G G2 (playS S x) (tuS (playS S x)) (t + 1) (t + 1)) := Lib.hid (PS.out.below KH.out hb)
        have tln := TLN.out
        clear hb
        by_cases hlt2 : j < td.length
        case neg =>
          obtain rfl : j = td.length := by omega
          have hd2 : decide ((td.length : Int) < td.length) = false := decide_eq_false (by omega)
          have T6 : Hid (Tw Pb w [] wr G G2 (playS S x) (tuS (playS S x)) (t + 1) (t + 1)) := Lib.hid (T7.out.less (fun y hy => by cases hy))
          clear T7 PC QC RDP RDQ TD PS
          go_wp2_with fail
          have IT := Lib.hid (T6.out.inv KH.out)
          have LA := Lib.hid (all_le IT.out.1.inv)
          have LB := Lib.hid (all_le IT.out.2.inv)
          have E1 := Lib.hid (tot_tu IT.out.1 IT.out.2 true)
          have E2 := Lib.hid (tot_tu IT.out.1 IT.out.2 false)
          have OA := Lib.hid (T6.out.ora KH.out)
          go_wp2_with fail
          refine OA.out.mono ?_; rintro e U1 ⟨u1, rfl, ho1, qq1⟩
          obtain ⟨a1, n1, c1', rfl⟩ := gown_any ho1
          have TT1 := Lib.hid (total7_any ho1 LA.out.1 LA.out.2)
          have TU1 := Lib.hid (T6.out.below KH.out qq1)
          clear OA qq1 ho1 T6
          go_wp2_with fail
          refine TT1.out.mono ?_; rintro e U1' ⟨rfl, rfl⟩
          have OB := Lib.hid (TU1.out.orb KH.out)
          go_wp2_with fail
          refine OB.out.mono ?_; rintro e U2 ⟨u2, rfl, ho2, qq2⟩
          obtain ⟨a2, n2, c2', rfl⟩ := gown_any ho2
          have TT2 := Lib.hid (total7_any ho2 LB.out.1 LB.out.2)
          have TU2 := Lib.hid (TU1.out.below KH.out qq2)
          rw [E1.out, E2.out] at TT2
          clear OB qq2 ho2 TU1 TT1 LA LB IT
          go_wp2_with fail
          refine TT2.out.mono ?_; rintro e U2' ⟨rfl, rfl⟩
          simp only [Bool.not_true, Bool.not_false]
          generalize tot true (playS S x).all = tx at *
          generalize tot false (playS S x).all = ty at *
          go_wp2_with fail
          go_roundw
          case rel => exact ⟨k + 1, playS S x, t + 1, hlt, by go_num, TU2.out, by omega⟩
          case measure => simp [intOf]; omega
        case pos =>
          have hd2 : decide ((j : Int) < td.length) = true := decide_eq_true (by omega)
          have hji : (j : Int) < (td.length : Int) := by omega
          obtain ⟨y, hy⟩ : ∃ y, td[j]? = some y := ⟨td[j]'hlt2, List.getElem?_eq_getElem _⟩
          have hy2 : (td.map tut)[j]? = some (tut y) := by rw [List.getElem?_map, hy]; rfl
          obtain ⟨b1', o1, e1, g1⟩ := grd_rng (RDP.out _ T7.out.xs) hy
          obtain ⟨b2', o2, e2, g2⟩ := grd_rng (RDQ.out _ T7.out.xs) hy2
          rw [e1] at PC
          rw [e2] at QC
          have YOK := Lib.hid (TD.out.1 y (List.mem_of_getElem? hy))
          have TB := Lib.hid (tut_back y)
          have yr := YOK.out.pr.1
          have yr2 := YOK.out.pr.2
          obtain ⟨zp, hzp⟩ : ∃ zp, (tut y).pr = zp := ⟨_, rfl⟩
          have hzy : 1001 - zp = y.pr := by rw [← hzp]; show (1001 : Int) - (1001 - y.pr) = y.pr; omega
          have et : tut y = ⟨zp, y.qt, y.nu, y.ac⟩ := by rw [← hzp]; rfl
          rw [et] at g2
          rw [hzp] at TB
          have c1 : -9223372036854775808 ≤ 1001 - zp := by omega
          have c2 : 1001 - zp ≤ 9223372036854775807 := by omega
          have R2 := Lib.hid g2
          obtain ⟨V8, hV8, bV8, yV8, zV8⟩ := put_tr wr (⟨zp, y.qt, y.nu, y.ac⟩ : Td)
          have HV8 := Lib.hid hV8
          have ZV8 := Lib.hid zV8
          have t0 : V8.cell? ⟨wr.heap.size, 0, none⟩ = some (.int .i64 zp) := gbx_cell yV8 0
          have tf : V8.frozen? ⟨wr.heap.size, 0, none⟩ = false := gbx_fz yV8 0
          have y9 : ET.Bx 63 (V8.setCell ⟨wr.heap.size, 0, none⟩ (.int .i64 (1001 - zp))) wr.heap.size (⟨1001 - zp, y.qt, y.nu, y.ac⟩ : Td) := gbx_put yV8 rfl
          obtain ⟨W9, hW9⟩ : ∃ W9, V8.setCell ⟨wr.heap.size, 0, none⟩ (.int .i64 (1001 - zp)) = W9 := ⟨_, rfl⟩
          have b9 : Below wr.heap.size wr W9 := by rw [← hW9]; exact bV8.setCell (Nat.le_refl _) _
          rw [TB.out, hW9] at y9
          have T9 := Lib.hid (T7.out.below KH.out b9)
          have BD := Lib.hid ((BW.out.trans (b9.mono BW.out.size)).drew)
          have R1 : Hid (W9.drew.rangeAt b1' (o1 + j * 4) (ET.cells y)) := Lib.hid (rng_below g1 b9.drew (Nat.le_refl _))
          have R3 : Hid (W9.drew.rangeAt wr.heap.size 0 (ET.cells y)) := Lib.hid (gbx_rng (gbx_below y9 (Below.refl _ _).drew))
          have CP : Hid (W9.drew.cell? ⟨V2.heap.size, 0, none⟩ = some (.slice (some ⟨b1', o1, none⟩) td.length p.tc)) := Lib.hid (PC.out _ (Xs.below T9.out.xs (Below.refl _ _).drew)).1
          have HW9 := Lib.hid hW9
          obtain ⟨q0, _, _, _⟩ := QC.out _ T7.out.xs
          clear g1 g2 hy hy2 e1 e2 hV8 bV8 yV8 zV8 y9 hW9 b9 hzp hzy et T7 T9 yr yr2
          go_wp2_with (first | ((with_reducible refine gwl_load (d := some 173) TT b2' _ R2.out ?_ ?_ ?_); rfl; rfl) | ((with_reducible refine gwl_store TT (⟨zp, y.qt, y.nu, y.ac⟩ : Td) wr.heap.size ZV8.out ?_ ?_ ?_); rfl; rfl; rw [HV8.out]))
          rw [HW9.out]
          refine wp_region_held_drew (S := fun U => U = W9.drew) (by kernel_rfl) rfl (fun hH => ?_)
          refine wpAnyH_take (i := 0) (v := .pointer (some ⟨V2.heap.size, 0, none⟩)) rfl (by kernel_rfl) (by kernel_rfl) (by kernel_rfl) (fun _ _ _ h => h) (.inl ⟨by rfl, ?_⟩) (by assumption) ?_
          · intro W hW; subst hW; go_simp
          try simp only [List.getElem_toArray, List.getElem_cons_zero, Act.put, List.setIfInBounds_toArray, List.set_cons_zero, List.set_cons_succ]
          refine wpAnyH_take (i := 1) (v := .slice (some ⟨b1', o1, none⟩) td.length p.tc) rfl (by kernel_rfl) (by kernel_rfl) (by kernel_rfl) (fun _ _ _ h => h) (.inl ⟨by rfl, ?_⟩) (by assumption) ?_
          · intro W hW; subst hW; have cp := CP.out; go_simp
          try simp only [List.getElem_toArray, List.getElem_cons_zero, List.getElem_cons_succ, Act.put, List.setIfInBounds_toArray, List.set_cons_zero, List.set_cons_succ]
          refine wpAnyH_take (i := 2) (v := .int .i64 j) rfl (by kernel_rfl) (by kernel_rfl) (by kernel_rfl) (fun _ _ _ h => h) (.inl ⟨by rfl, ?_⟩) (by assumption) ?_
          · intro W hW; subst hW; go_simp
          try simp only [List.getElem_toArray, List.getElem_cons_zero, List.getElem_cons_succ, Act.put, List.setIfInBounds_toArray, List.set_cons_zero, List.set_cons_succ]
          refine wpAnyH_take (i := 3) (v := .pointer (some ⟨b1', o1 + j * 4, none⟩)) rfl (by kernel_rfl) (by kernel_rfl) (by kernel_rfl) (fun _ _ _ h => h) (.inl ⟨by rfl, ?_⟩) (by assumption) ?_
          · intro W hW; subst hW; go_simp
          try simp only [List.getElem_toArray, List.getElem_cons_zero, List.getElem_cons_succ, Act.put, List.setIfInBounds_toArray, List.set_cons_zero, List.set_cons_succ]
          refine wpAnyH_take (i := 4) (v := .agg (ET.cells y).toArray) rfl (by kernel_rfl) (by kernel_rfl) (by kernel_rfl) (fun _ _ _ h => h) (gyields_load TT (by rfl) (.tmp 181) rfl b1' (o1 + j * 4) rfl (fun U hU => by subst hU; exact R1.out)) (by assumption) ?_
          try simp only [List.getElem_toArray, List.getElem_cons_zero, List.getElem_cons_succ, Act.put, List.setIfInBounds_toArray, List.set_cons_zero, List.set_cons_succ]
          refine wpAnyH_take (i := 5) (v := .agg (ET.cells y).toArray) rfl (by kernel_rfl) (by kernel_rfl) (by kernel_rfl) (fun _ _ _ h => h) (gyields_load TT (by rfl) (.tmp 13) rfl wr.heap.size 0 rfl (fun U hU => by subst hU; exact R3.out)) (by assumption) ?_
          try simp only [List.getElem_toArray, List.getElem_cons_zero, List.getElem_cons_succ, Act.put, List.setIfInBounds_toArray, List.set_cons_zero, List.set_cons_succ]
          refine wpAnyH_take (i := 6) (v := .bool false) rfl (by kernel_rfl) (by kernel_rfl) (by kernel_rfl) (fun _ _ _ h => h) (yields_neq_td0 (by rfl) (.tmp 182) (.tmp 183) rfl YOK.out rfl rfl) (by assumption) ?_
          try simp only [List.getElem_toArray, List.getElem_cons_zero, List.getElem_cons_succ, Act.put, List.setIfInBounds_toArray, List.set_cons_zero, List.set_cons_succ]
          refine wpAnyH_done (by decide +kernel) ?_ _
          clear hH
          go_wp2_with fail
          go_roundw
          case rel => exact ⟨j + 1, hlt2, by go_num, BD.out⟩
          case measure => simp [intOf]; omega
    by_cases hk2 : x.kd = 2
    · have KD := Lib.hid hk2
      rw [hk2] at a0
      clear hk1 hk2
      obtain ⟨W4, hW4, b4', z8, z9⟩ := two_zpx W3
      rw [SW3.out] at z8 z9
      have u6 : EOp.Bx 34 W4 wr.heap.size x := gbx_below Y6.out b4'
      have hL : ((((V2.setCell ⟨V.heap.size, 3, none⟩ (.bool !x.o.bu)).setCell ⟨V.heap.size, 4, none⟩ (.int .i64 (1001 - x.o.pr))).alloc (.cells (EPx.cells zeroPx).toArray 49)).alloc (.cells (EPx.cells zeroPx).toArray 49)) = W4 := by rw [hW3]; exact hW4
      have l0 : ((((V2.setCell ⟨V.heap.size, 3, none⟩ (.bool !x.o.bu)).setCell ⟨V.heap.size, 4, none⟩ (.int .i64 (1001 - x.o.pr))).alloc (.cells (EPx.cells zeroPx).toArray 49)).alloc (.cells (EPx.cells zeroPx).toArray 49)).cell? ⟨wr.heap.size, 0, none⟩ = some (.int .i64 2) := by rw [hL, gbx_cell u6 0, ← KD.out]; rfl
      have l1 : ((((V2.setCell ⟨V.heap.size, 3, none⟩ (.bool !x.o.bu)).setCell ⟨V.heap.size, 4, none⟩ (.int .i64 (1001 - x.o.pr))).alloc (.cells (EPx.cells zeroPx).toArray 49)).alloc (.cells (EPx.cells zeroPx).toArray 49)).cell? ⟨wr.heap.size, 1, none⟩ = some (.int .u64 x.o.nu) := by rw [hL]; exact gbx_cell u6 1
      have l4 : ((((V2.setCell ⟨V.heap.size, 3, none⟩ (.bool !x.o.bu)).setCell ⟨V.heap.size, 4, none⟩ (.int .i64 (1001 - x.o.pr))).alloc (.cells (EPx.cells zeroPx).toArray 49)).alloc (.cells (EPx.cells zeroPx).toArray 49)).cell? ⟨wr.heap.size, 4, none⟩ = some (.int .i64 x.o.pr) := by rw [hL]; exact gbx_cell u6 4
      have l5 : ((((V2.setCell ⟨V.heap.size, 3, none⟩ (.bool !x.o.bu)).setCell ⟨V.heap.size, 4, none⟩ (.int .i64 (1001 - x.o.pr))).alloc (.cells (EPx.cells zeroPx).toArray 49)).alloc (.cells (EPx.cells zeroPx).toArray 49)).cell? ⟨wr.heap.size, 5, none⟩ = some (.int .i64 x.o.le) := by rw [hL]; exact gbx_cell u6 5
      have T4 : Hid (Tw Pb w [pxB V2.heap.size zeroPx, pxB (V2.heap.size + 1) zeroPx, opB V.heap.size (tuX x), opB wr.heap.size x] W4 G G2 S (tuS S) t t) := Lib.hid (T3.out.push KH.out b4' (Y := [pxB V2.heap.size zeroPx, pxB (V2.heap.size + 1) zeroPx]) (Xs.cons (one_in z9) z8) (fun y hy => by
        rcases List.mem_cons.1 hy with rfl | hy
        · rw [SW3.out]; exact Nat.le_refl _
        · rw [List.mem_singleton.1 hy, SW3.out]; exact Nat.le_succ _))
      have HL := Lib.hid hL
      have GE : Hid (w.heap.size ≤ V2.heap.size ∧ wr.heap.size < V2.heap.size ∧ V.heap.size < V2.heap.size) := Lib.hid (by have := WR.out; have := SV.out; have := SV2.out; omega)
      clear hW4 b4' z8 z9 u6 hL hW3
      go_wp2_with (first | ((with_reducible refine gwl_load (d := some 44) TOp b (o' + k * 7) RG.out ?_ ?_ ?_); rfl; rfl) | (refine gwl_store TOp x wr.heap.size ZV.out rfl rfl ?_; rw [HV.out]) | ((with_reducible refine gwl_load (d := some 55) TOp wr.heap.size 0 RGV.out ?_ ?_ ?_); rfl; rfl) | (refine gwl_store TOp x V.heap.size ZV2.out rfl rfl ?_; rw [HV2.out]))
      rw [HL.out]
      clear a0 a3 a4 b3 b4 f3 f4 v4 l0 l1 l4 l5
      refine (T4.out.p2 KH.out (fun A h => KH.out.repl (n := x.o.nu) (p := x.o.pr) (l := x.o.le) h OKX.out.o.nu OKX.out.o.pr OKX.out.o.le (by omega))).mono ?_; rintro e w5 ⟨p, rfl, pp, pi, R5, r5, s5, t5⟩
      have z5 : EPx.Bx 49 w5 V2.heap.size zeroPx := Xs.px t5.xs (by simp)
      obtain ⟨t5, pi⟩ := t5.pset KH.out s5 pi (b := V2.heap.size) (z := zeroPx) (Y := [pxB (V2.heap.size + 1) zeroPx, opB V.heap.size (tuX x), opB wr.heap.size x]) (by simp) GE.out.1 (fun y hy => by
        have := GE.out
        rcases List.mem_cons.1 hy with rfl | hy
        · exact ⟨by simp, by show V2.heap.size + 1 ≠ V2.heap.size; omega⟩
        · rcases List.mem_cons.1 hy with rfl | hy
          · exact ⟨by simp, by show V.heap.size ≠ V2.heap.size; omega⟩
          · rw [List.mem_singleton.1 hy]; exact ⟨by simp, by show wr.heap.size ≠ V2.heap.size; omega⟩)
      obtain ⟨V5, hV5⟩ : ∃ V5, w5.setRow V2.heap.size (EPx.cells p).toArray = V5 := ⟨_, rfl⟩
      rw [hV5] at t5 pi
      have S5 : Hid (∀ y, y ∈ R5 → y.1 ≠ V2.heap.size + 1) := Lib.hid (fun y hy e => pi.ne (k := V2.heap.size + 1) (Xs.px (p := zeroPx) (b := V2.heap.size + 1) t5.xs (by simp)) (by decide) (by decide) (e ▸ s5 y hy))
      have T5 := Lib.hid t5
      have PI5 := Lib.hid pi
      have PP := Lib.hid pp
      have R5' := Lib.hid r5
      have HV5 := Lib.hid hV5
      have Z5 := Lib.hid z5
      have u7 := Xs.op (b := V.heap.size) (x := tuX x) T5.out.xs (by simp)
      have m1 : V5.cell? ⟨V.heap.size, 1, none⟩ = some (.int .u64 x.o.nu) := gbx_cell u7 1
      have m4 : V5.cell? ⟨V.heap.size, 4, none⟩ = some (.int .i64 (1001 - x.o.pr)) := gbx_cell u7 4
      have m5 : V5.cell? ⟨V.heap.size, 5, none⟩ = some (.int .i64 x.o.le) := gbx_cell u7 5
      clear t5 pi pp r5 s5 hV5 z5 u7 T4 T3
      go_wp2_with (first | ((with_reducible refine wl_store_px p V2.heap.size Z5.out ?_ ?_ ?_); rfl; rfl; rw [HV5.out]))
      refine (T5.out.q2 KH.out (fun A h => KH.out.repl (n := x.o.nu) (p := 1001 - x.o.pr) (l := x.o.le) h OKX.out.o.nu OKT.out.o.pr OKX.out.o.le (by omega))).mono ?_; rintro e w6 ⟨q, rfl, qq, qi, R6, r6, s6, t6⟩
      have z6 : EPx.Bx 49 w6 (V2.heap.size + 1) zeroPx := Xs.px t6.xs (by simp)
      obtain ⟨t6, qi⟩ := t6.pset KH.out s6 qi (b := V2.heap.size + 1) (z := zeroPx) (Y := pxB V2.heap.size p :: R5) (by simp) (Nat.le_trans GE.out.1 (Nat.le_succ _)) (fun y hy => by
        rcases List.mem_cons.1 hy with rfl | hy
        · exact ⟨by simp, by show V2.heap.size ≠ V2.heap.size + 1; omega⟩
        · exact ⟨by simp [hy], fun e => S5.out y hy e⟩)
      obtain ⟨V6, hV6⟩ : ∃ V6, w6.setRow (V2.heap.size + 1) (EPx.cells q).toArray = V6 := ⟨_, rfl⟩
      rw [hV6] at t6 qi
      obtain ⟨X6, hX6⟩ : ∃ X6 : Xs, pxB (V2.heap.size + 1) q :: (R6 ++ (pxB V2.heap.size p :: R5)) = X6 := ⟨_, rfl⟩
      rw [hX6] at t6
      have T6 := Lib.hid t6
      have PS : Hid (Tw Pb w X6 V6 G G2 (playS S x) (tuS (playS S x)) (t + 1) (t + 1)) := Lib.hid (t6.turn (by rw [playS_2 KD.out]; exact (repl_tu IV.out.1 PR.out).2.2) (playS_2 KD.out).symm)
      have XP : Hid (pxB V2.heap.size p ∈ X6) := Lib.hid (hX6 ▸ by simp)
      have XQ : Hid (pxB (V2.heap.size + 1) q ∈ X6) := Lib.hid (hX6 ▸ by simp)
      have PI : Hid (∀ U, X6.in U → p.Is U W4.heap.size (replP S x.o.nu x.o.pr x.o.le).td (replP S x.o.nu x.o.pr x.o.le).gn) := Lib.hid fun U hU => PI5.out.at (X := pxB V2.heap.size p :: R5) (fun k hk => by obtain ⟨o, ho⟩ := R5'.out k hk; exact ⟨o, by simp [ho]⟩) (fun y hy => T5.out.xs y (by simp at hy ⊢; rcases hy with hy | hy <;> simp [hy])) (fun y hy => hU y (hX6 ▸ by simp at hy ⊢; rcases hy with hy | hy <;> simp [hy]))
      have QI : Hid (∀ U, X6.in U → q.Is U V5.heap.size ((replP S x.o.nu x.o.pr x.o.le).td.map tut) (replP S x.o.nu x.o.pr x.o.le).gn) := Lib.hid fun U hU => by
        have h := qi.at (X := X6) (fun k hk => by obtain ⟨o, ho⟩ := r6 k hk; exact ⟨o, hX6 ▸ by simp [ho]⟩) t6.xs hU
        rw [(repl_tu (S := S) IV.out.1 PR.out).2.1] at h
        exact h
      have FQ : Hid (p.fi = q.fi ∧ p.lf = q.lf) := Lib.hid (by
        rw [(repl_tu (S := S) IV.out.1 PR.out).2.1] at qq
        exact ⟨PP.out.1.trans qq.1.symm, PP.out.2.trans qq.2.symm⟩)
      rw [(repl_tu (S := S) IV.out.1 PR.out).1]
      generalize replA S x.o.nu x.o.pr x.o.le = ea
      have TD := Lib.hid (repl_tdok (S := S) (n := x.o.nu) (p := x.o.pr) (l := x.o.le) IV.out.1)
      have HV6 := Lib.hid hV6
      have Z6 := Lib.hid z6
      clear t6 qi qq r6 s6 hV6 z6 hX6 T6 T5 PI5 PP R5' S5
      obtain ⟨td, htd⟩ : ∃ td, (replP S x.o.nu x.o.pr x.o.le).td = td := ⟨_, rfl⟩
      obtain ⟨gn, hgn⟩ : ∃ gn, (replP S x.o.nu x.o.pr x.o.le).gn = gn := ⟨_, rfl⟩
      rw [htd, hgn] at PI QI
      rw [htd] at TD
      have hfi := FQ.out.1
      have hlf := FQ.out.2
      have PC : Hid (∀ U, X6.in U → U.cell? ⟨V2.heap.size, 0, none⟩ = some (.slice p.ta td.length p.tc) ∧ U.cell? ⟨V2.heap.size, 1, none⟩ = some (.slice p.na gn.length p.nc) ∧ U.cell? ⟨V2.heap.size, 2, none⟩ = some (.int .i64 q.fi) ∧ U.cell? ⟨V2.heap.size, 3, none⟩ = some (.int .i64 q.lf)) := Lib.hid fun U hU => by
        have h := Xs.px hU XP.out
        refine ⟨?_, ?_, ?_, ?_⟩
        · rw [← (PI.out U hU).tl]; exact gbx_cell h 0
        · rw [← (PI.out U hU).nl]; exact gbx_cell h 1
        · rw [← hfi]; exact gbx_cell h 2
        · rw [← hlf]; exact gbx_cell h 3
      have QC : Hid (∀ U, X6.in U → U.cell? ⟨V2.heap.size + 1, 0, none⟩ = some (.slice q.ta td.length q.tc) ∧ U.cell? ⟨V2.heap.size + 1, 1, none⟩ = some (.slice q.na gn.length q.nc) ∧ U.cell? ⟨V2.heap.size + 1, 2, none⟩ = some (.int .i64 q.fi) ∧ U.cell? ⟨V2.heap.size + 1, 3, none⟩ = some (.int .i64 q.lf)) := Lib.hid fun U hU => by
        have h := Xs.px hU XQ.out
        refine ⟨?_, ?_, ?_, ?_⟩
        · rw [show td.length = q.tn by rw [(QI.out U hU).tl, List.length_map]]; exact gbx_cell h 0
        · rw [← (QI.out U hU).nl]; exact gbx_cell h 1
        · exact gbx_cell h 2
        · exact gbx_cell h 3
      have RDP : Hid (∀ U, X6.in U → ET.Rd U p.ta td.length td) := Lib.hid fun U hU => by
        have h := gown_rd (PI.out U hU).to
        rwa [(PI.out U hU).tl] at h
      have RDQ : Hid (∀ U, X6.in U → ET.Rd U q.ta td.length (td.map tut)) := Lib.hid fun U hU => by
        have h := gown_rd (QI.out U hU).to
        rwa [(QI.out U hU).tl, List.length_map] at h
      obtain ⟨s0, s1, s2, s3⟩ := PC.out V6 PS.out.xs
      obtain ⟨r0, r1, r2, r3⟩ := QC.out V6 PS.out.xs
      have TLN : Hid (td.length ≤ 100) := Lib.hid TD.out.2
      clear hfi hlf FQ PI QI htd hgn XP XQ m1 m4 m5
      go_wp2_with ((with_reducible refine wl_store_px q (V2.heap.size + 1) Z6.out ?_ ?_ ?_); rfl; rfl; rw [HV6.out])
      clear s0 s1 s2 s3 r0 r1 r2 r3
      go_loopw [166] (fun i wr2 => ∃ j : Nat, j ≤ td.length ∧ i = .int .i64 j ∧ Below V6.heap.size V6 wr2) (fun i _ => td.length - (intOf i).toNat)
      case atStart => exact ⟨0, Nat.zero_le _, rfl, Below.refl _ _⟩
      case round =>
        obtain ⟨j, hj, rfl, hb⟩ := hrel
        have BW := Lib.hid hb
        have T7 : Hid (Tw Pb w X6 wr G G2 (playS S x) (tuS (playS S x)) (t + 1) (t + 1)) := Lib.hid (PS.out.below KH.out hb)
        have tln := TLN.out
        clear hb
        by_cases hlt2 : j < td.length
        case neg =>
          obtain rfl : j = td.length := by omega
          have hd2 : decide ((td.length : Int) < td.length) = false := decide_eq_false (by omega)
          have T6 : Hid (Tw Pb w [] wr G G2 (playS S x) (tuS (playS S x)) (t + 1) (t + 1)) := Lib.hid (T7.out.less (fun y hy => by cases hy))
          clear T7 PC QC RDP RDQ TD PS
          go_wp2_with fail
          have IT := Lib.hid (T6.out.inv KH.out)
          have LA := Lib.hid (all_le IT.out.1.inv)
          have LB := Lib.hid (all_le IT.out.2.inv)
          have E1 := Lib.hid (tot_tu IT.out.1 IT.out.2 true)
          have E2 := Lib.hid (tot_tu IT.out.1 IT.out.2 false)
          have OA := Lib.hid (T6.out.ora KH.out)
          go_wp2_with fail
          refine OA.out.mono ?_; rintro e U1 ⟨u1, rfl, ho1, qq1⟩
          obtain ⟨a1, n1, c1', rfl⟩ := gown_any ho1
          have TT1 := Lib.hid (total7_any ho1 LA.out.1 LA.out.2)
          have TU1 := Lib.hid (T6.out.below KH.out qq1)
          clear OA qq1 ho1 T6
          go_wp2_with fail
          refine TT1.out.mono ?_; rintro e U1' ⟨rfl, rfl⟩
          have OB := Lib.hid (TU1.out.orb KH.out)
          go_wp2_with fail
          refine OB.out.mono ?_; rintro e U2 ⟨u2, rfl, ho2, qq2⟩
          obtain ⟨a2, n2, c2', rfl⟩ := gown_any ho2
          have TT2 := Lib.hid (total7_any ho2 LB.out.1 LB.out.2)
          have TU2 := Lib.hid (TU1.out.below KH.out qq2)
          rw [E1.out, E2.out] at TT2
          clear OB qq2 ho2 TU1 TT1 LA LB IT
          go_wp2_with fail
          refine TT2.out.mono ?_; rintro e U2' ⟨rfl, rfl⟩
          simp only [Bool.not_true, Bool.not_false]
          generalize tot true (playS S x).all = tx at *
          generalize tot false (playS S x).all = ty at *
          go_wp2_with fail
          go_roundw
          case rel => exact ⟨k + 1, playS S x, t + 1, hlt, by go_num, TU2.out, by omega⟩
          case measure => simp [intOf]; omega
        case pos =>
          have hd2 : decide ((j : Int) < td.length) = true := decide_eq_true (by omega)
          have hji : (j : Int) < (td.length : Int) := by omega
          obtain ⟨y, hy⟩ : ∃ y, td[j]? = some y := ⟨td[j]'hlt2, List.getElem?_eq_getElem _⟩
          have hy2 : (td.map tut)[j]? = some (tut y) := by rw [List.getElem?_map, hy]; rfl
          obtain ⟨b1', o1, e1, g1⟩ := grd_rng (RDP.out _ T7.out.xs) hy
          obtain ⟨b2', o2, e2, g2⟩ := grd_rng (RDQ.out _ T7.out.xs) hy2
          rw [e1] at PC
          rw [e2] at QC
          have YOK := Lib.hid (TD.out.1 y (List.mem_of_getElem? hy))
          have TB := Lib.hid (tut_back y)
          have yr := YOK.out.pr.1
          have yr2 := YOK.out.pr.2
          obtain ⟨zp, hzp⟩ : ∃ zp, (tut y).pr = zp := ⟨_, rfl⟩
          have hzy : 1001 - zp = y.pr := by rw [← hzp]; show (1001 : Int) - (1001 - y.pr) = y.pr; omega
          have et : tut y = ⟨zp, y.qt, y.nu, y.ac⟩ := by rw [← hzp]; rfl
          rw [et] at g2
          rw [hzp] at TB
          have c1 : -9223372036854775808 ≤ 1001 - zp := by omega
          have c2 : 1001 - zp ≤ 9223372036854775807 := by omega
          have R2 := Lib.hid g2
          obtain ⟨V8, hV8, bV8, yV8, zV8⟩ := put_tr wr (⟨zp, y.qt, y.nu, y.ac⟩ : Td)
          have HV8 := Lib.hid hV8
          have ZV8 := Lib.hid zV8
          have t0 : V8.cell? ⟨wr.heap.size, 0, none⟩ = some (.int .i64 zp) := gbx_cell yV8 0
          have tf : V8.frozen? ⟨wr.heap.size, 0, none⟩ = false := gbx_fz yV8 0
          have y9 : ET.Bx 63 (V8.setCell ⟨wr.heap.size, 0, none⟩ (.int .i64 (1001 - zp))) wr.heap.size (⟨1001 - zp, y.qt, y.nu, y.ac⟩ : Td) := gbx_put yV8 rfl
          obtain ⟨W9, hW9⟩ : ∃ W9, V8.setCell ⟨wr.heap.size, 0, none⟩ (.int .i64 (1001 - zp)) = W9 := ⟨_, rfl⟩
          have b9 : Below wr.heap.size wr W9 := by rw [← hW9]; exact bV8.setCell (Nat.le_refl _) _
          rw [TB.out, hW9] at y9
          have T9 := Lib.hid (T7.out.below KH.out b9)
          have BD := Lib.hid ((BW.out.trans (b9.mono BW.out.size)).drew)
          have R1 : Hid (W9.drew.rangeAt b1' (o1 + j * 4) (ET.cells y)) := Lib.hid (rng_below g1 b9.drew (Nat.le_refl _))
          have R3 : Hid (W9.drew.rangeAt wr.heap.size 0 (ET.cells y)) := Lib.hid (gbx_rng (gbx_below y9 (Below.refl _ _).drew))
          have CP : Hid (W9.drew.cell? ⟨V2.heap.size, 0, none⟩ = some (.slice (some ⟨b1', o1, none⟩) td.length p.tc)) := Lib.hid (PC.out _ (Xs.below T9.out.xs (Below.refl _ _).drew)).1
          have HW9 := Lib.hid hW9
          obtain ⟨q0, _, _, _⟩ := QC.out _ T7.out.xs
          clear g1 g2 hy hy2 e1 e2 hV8 bV8 yV8 zV8 y9 hW9 b9 hzp hzy et T7 T9 yr yr2
          go_wp2_with (first | ((with_reducible refine gwl_load (d := some 173) TT b2' _ R2.out ?_ ?_ ?_); rfl; rfl) | ((with_reducible refine gwl_store TT (⟨zp, y.qt, y.nu, y.ac⟩ : Td) wr.heap.size ZV8.out ?_ ?_ ?_); rfl; rfl; rw [HV8.out]))
          rw [HW9.out]
          refine wp_region_held_drew (S := fun U => U = W9.drew) (by kernel_rfl) rfl (fun hH => ?_)
          refine wpAnyH_take (i := 0) (v := .pointer (some ⟨V2.heap.size, 0, none⟩)) rfl (by kernel_rfl) (by kernel_rfl) (by kernel_rfl) (fun _ _ _ h => h) (.inl ⟨by rfl, ?_⟩) (by assumption) ?_
          · intro W hW; subst hW; go_simp
          try simp only [List.getElem_toArray, List.getElem_cons_zero, Act.put, List.setIfInBounds_toArray, List.set_cons_zero, List.set_cons_succ]
          refine wpAnyH_take (i := 1) (v := .slice (some ⟨b1', o1, none⟩) td.length p.tc) rfl (by kernel_rfl) (by kernel_rfl) (by kernel_rfl) (fun _ _ _ h => h) (.inl ⟨by rfl, ?_⟩) (by assumption) ?_
          · intro W hW; subst hW; have cp := CP.out; go_simp
          try simp only [List.getElem_toArray, List.getElem_cons_zero, List.getElem_cons_succ, Act.put, List.setIfInBounds_toArray, List.set_cons_zero, List.set_cons_succ]
          refine wpAnyH_take (i := 2) (v := .int .i64 j) rfl (by kernel_rfl) (by kernel_rfl) (by kernel_rfl) (fun _ _ _ h => h) (.inl ⟨by rfl, ?_⟩) (by assumption) ?_
          · intro W hW; subst hW; go_simp
          try simp only [List.getElem_toArray, List.getElem_cons_zero, List.getElem_cons_succ, Act.put, List.setIfInBounds_toArray, List.set_cons_zero, List.set_cons_succ]
          refine wpAnyH_take (i := 3) (v := .pointer (some ⟨b1', o1 + j * 4, none⟩)) rfl (by kernel_rfl) (by kernel_rfl) (by kernel_rfl) (fun _ _ _ h => h) (.inl ⟨by rfl, ?_⟩) (by assumption) ?_
          · intro W hW; subst hW; go_simp
          try simp only [List.getElem_toArray, List.getElem_cons_zero, List.getElem_cons_succ, Act.put, List.setIfInBounds_toArray, List.set_cons_zero, List.set_cons_succ]
          refine wpAnyH_take (i := 4) (v := .agg (ET.cells y).toArray) rfl (by kernel_rfl) (by kernel_rfl) (by kernel_rfl) (fun _ _ _ h => h) (gyields_load TT (by rfl) (.tmp 181) rfl b1' (o1 + j * 4) rfl (fun U hU => by subst hU; exact R1.out)) (by assumption) ?_
          try simp only [List.getElem_toArray, List.getElem_cons_zero, List.getElem_cons_succ, Act.put, List.setIfInBounds_toArray, List.set_cons_zero, List.set_cons_succ]
          refine wpAnyH_take (i := 5) (v := .agg (ET.cells y).toArray) rfl (by kernel_rfl) (by kernel_rfl) (by kernel_rfl) (fun _ _ _ h => h) (gyields_load TT (by rfl) (.tmp 13) rfl wr.heap.size 0 rfl (fun U hU => by subst hU; exact R3.out)) (by assumption) ?_
          try simp only [List.getElem_toArray, List.getElem_cons_zero, List.getElem_cons_succ, Act.put, List.setIfInBounds_toArray, List.set_cons_zero, List.set_cons_succ]
          refine wpAnyH_take (i := 6) (v := .bool false) rfl (by kernel_rfl) (by kernel_rfl) (by kernel_rfl) (fun _ _ _ h => h) (yields_neq_td0 (by rfl) (.tmp 182) (.tmp 183) rfl YOK.out rfl rfl) (by assumption) ?_
          try simp only [List.getElem_toArray, List.getElem_cons_zero, List.getElem_cons_succ, Act.put, List.setIfInBounds_toArray, List.set_cons_zero, List.set_cons_succ]
          refine wpAnyH_done (by decide +kernel) ?_ _
          clear hH
          go_wp2_with fail
          go_roundw
          case rel => exact ⟨j + 1, hlt2, by go_num, BD.out⟩
          case measure => simp [intOf]; omega
    have e1 : (x.kd == 1) = false := beq_eq_false_iff_ne.2 hk1
    have e2 : (x.kd == 2) = false := beq_eq_false_iff_ne.2 hk2
    have RG6 : Hid (((V2.setCell ⟨V.heap.size, 3, none⟩ (.bool !x.o.bu)).setCell ⟨V.heap.size, 4, none⟩ (.int .i64 (1001 - x.o.pr))).rangeAt wr.heap.size 0 (EOp.cells x)) := Lib.hid (by rw [hW3]; exact gbx_rng Y6.out)
    have PT := Lib.hid (playS_tu (S := S) IV.out.1 PR.out)
    clear hk1 hk2 hW3
    go_wp2_with (first | ((with_reducible refine gwl_load (d := some 44) TOp b (o' + k * 7) RG.out ?_ ?_ ?_); rfl; rfl) | (refine gwl_store TOp x wr.heap.size ZV.out rfl rfl ?_; rw [HV.out]) | ((with_reducible refine gwl_load (d := some 55) TOp wr.heap.size 0 RGV.out ?_ ?_ ?_); rfl; rfl) | (refine gwl_store TOp x V.heap.size ZV2.out rfl rfl ?_; rw [HV2.out]) | ((with_reducible refine gwl_load (d := some 71) TOp wr.heap.size 0 RG6.out ?_ ?_ ?_); rfl; rfl))
    rw [HW3.out]
    clear a0 a3 a4 b3 b4 f3 f4 v4
    refine (T3.out.pla KH.out OKX.out (by omega)).mono ?_; rintro e w5 ⟨⟨v5, rfl⟩, c5⟩
    have C5 := Lib.hid c5
    have RG7 := Lib.hid (gbx_rng (Xs.op (b := V.heap.size) (x := tuX x) C5.out.xs (by simp)))
    clear c5 T3 RG6
    go_wp2_with ((with_reducible refine gwl_load (d := some 74) TOp V.heap.size 0 RG7.out ?_ ?_ ?_); rfl; rfl)
    refine (C5.out.plb KH.out OKT.out (by omega)).mono ?_; rintro e w6 ⟨⟨v6, rfl⟩, c6⟩
    have T6 : Hid (Tw Pb w [] w6 G G2 (playS S x) (tuS (playS S x)) (t + 1) (t + 1)) := Lib.hid ((c6.turn PT.out rfl).less (fun y hy => by cases hy))
    clear c6 C5 RG7
    have IT := Lib.hid (T6.out.inv KH.out)
    have LA := Lib.hid (all_le IT.out.1.inv)
    have LB := Lib.hid (all_le IT.out.2.inv)
    have E1 := Lib.hid (tot_tu IT.out.1 IT.out.2 true)
    have E2 := Lib.hid (tot_tu IT.out.1 IT.out.2 false)
    have OA := Lib.hid (T6.out.ora KH.out)
    go_wp2_with fail
    refine OA.out.mono ?_; rintro e U1 ⟨u1, rfl, ho1, qq1⟩
    obtain ⟨a1, n1, c1', rfl⟩ := gown_any ho1
    have TT1 := Lib.hid (total7_any ho1 LA.out.1 LA.out.2)
    have TU1 := Lib.hid (T6.out.below KH.out qq1)
    clear OA qq1 ho1 T6
    go_wp2_with fail
    refine TT1.out.mono ?_; rintro e U1' ⟨rfl, rfl⟩
    have OB := Lib.hid (TU1.out.orb KH.out)
    go_wp2_with fail
    refine OB.out.mono ?_; rintro e U2 ⟨u2, rfl, ho2, qq2⟩
    obtain ⟨a2, n2, c2', rfl⟩ := gown_any ho2
    have TT2 := Lib.hid (total7_any ho2 LB.out.1 LB.out.2)
    have TU2 := Lib.hid (TU1.out.below KH.out qq2)
    rw [E1.out, E2.out] at TT2
    clear OB qq2 ho2 TU1 TT1 LA LB IT
    go_wp2_with fail
    refine TT2.out.mono ?_; rintro e U2' ⟨rfl, rfl⟩
    simp only [Bool.not_true, Bool.not_false]
    generalize tot true (playS S x).all = tx at *
    generalize tot false (playS S x).all = ty at *
    go_wp2_with fail
    go_roundw
    case rel => exact ⟨k + 1, playS S x, t + 1, hlt, by go_num, TU2.out, by omega⟩
    case measure => simp [intOf]; omega
theorem turned7_all {Pb : PbT} (K : BookK Pb) (A : Option Addr) (n c : Nat) (l : List Op7) (w : World) (hr : EOp.Rd w A n l) (hok : ∀ x, x ∈ l → x.ok) (hm : n ≤ maxLen) :
    Calls Try.prog 7 #[.slice A n c] w fun e w' => e = .returned (.bool true) ∧ Below w.heap.size w w' := by
  unfold maxLen at hm
  rcases Nat.lt_or_ge 100 n with h | h
  · exact turned7_out K A n c w h (by omega)
  · exact turned7_in K A n c l w hr hok h
end Go.Proofs.Ytdcjgcjnfcahkaa
