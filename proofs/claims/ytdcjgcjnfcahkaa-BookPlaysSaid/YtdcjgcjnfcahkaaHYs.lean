/- The statements' 'do' of stage 7: both books the same call, given the program's book. -/
import Derived.Test.YtdcjgcjnfcahkaaHYq
namespace Go.Proofs.Ytdcjgcjnfcahkaa
open Go.RowKit Go.Shelf
set_option linter.unusedVariables false
set_option linter.unusedSimpArgs false

theorem do_bx (w : World) (x : Op7) : ∃ V, ((w.alloc (.cells (EOp.cells x).toArray 34)).alloc (.cells (EO.cells zeroOr).toArray 31)).setRow (w.heap.size + 1) (EO.cells x.o).toArray = V ∧ Below w.heap.size w V ∧ EOp.Bx 34 V w.heap.size x ∧ EO.Bx 31 V (w.heap.size + 1) x.o ∧ EO.Bx 31 ((w.alloc (.cells (EOp.cells x).toArray 34)).alloc (.cells (EO.cells zeroOr).toArray 31)) (w.heap.size + 1) zeroOr ∧ EOp.Bx 34 (w.alloc (.cells (EOp.cells x).toArray 34)) w.heap.size x := by
  have y0 : EOp.Bx 34 (w.alloc (.cells (EOp.cells x).toArray 34)) w.heap.size x := gbx_new w x
  generalize h1 : (w.alloc (.cells (EOp.cells x).toArray 34)) = W1 at *
  have s1 : W1.heap.size = w.heap.size + 1 := by rw [← h1]; simp
  have q1 : Below w.heap.size w W1 := h1 ▸ below_new w _
  have b := below_row0 (cs := (EO.cells x.o).toArray) (below_new W1 (.cells (EO.cells zeroOr).toArray 31)) (Nat.le_refl _)
  have y := gbx_set (x := x.o) (gbx_new (E := EO) (te := 31) W1 zeroOr)
  have z := gbx_new (E := EO) (te := 31) W1 zeroOr
  rw [s1] at b y z
  exact ⟨_, rfl, q1.trans (b.mono (Nat.le_succ _)), gbx_below y0 (s1 ▸ b), y, z, y0⟩
theorem take_ok {S : Sd} (iv : InvB S) (n : Int) : (takeX S n).ok := by
  rcases take_cases S n with ⟨_, e, _⟩ | ⟨o, h, e, _⟩
  · rw [e]; constructor <;> simp [zeroOr, I64']
  · rw [e]; exact (iv.inv o.bu).ok o (iv.own h).1
theorem mass_ok {S : Sd} (iv : InvB S) (a : Int) : (∀ x, x ∈ massX S a → x.ok) ∧ (massX S a).length ≤ 200 := by
  obtain ⟨h1, h2⟩ := all_le iv.inv
  exact ⟨fun x hx => (h1 x (List.mem_filter.1 hx).1).1, Nat.le_trans (List.length_filter_le _ _) h2⟩
theorem meet_gnlen (o : Or) : ∀ (os : List Or) (left : Int), (meetO o os left).gn.length ≤ os.length
  | [], left => Nat.le_refl _
  | x :: r, left => by
    by_cases h0 : left ≤ 0
    · rw [meet_end h0]; exact Nat.zero_le _
    · cases hm : metO o x
      · rw [meet_far hm]; exact Nat.zero_le _
      · by_cases ha : x.ac = o.ac
        · rw [meet_own (by omega) hm ha]
          exact Nat.succ_le_succ (meet_gnlen o r left)
        · rw [meet_other (by omega) hm ha]
          split
          · exact Nat.le_succ_of_le (meet_gnlen o r _)
          · exact Nat.zero_le _
theorem repl_gn {S : Sd} (iv : InvB S) {n p l : Int} : (replP S n p l).gn.length ≤ 100 := by
  unfold replP
  cases h : findB S n with
  | none => exact Nat.zero_le _
  | some o =>
    dsimp only
    split
    · exact Nat.zero_le _
    · split
      · exact Nat.zero_le _
      · unfold comeP metB
        dsimp only
        rw [show (S.up o.bu (dropO (S o.bu) n)) (!(o.at p l).bu) = S (!o.bu) from Sd.up_not' S o.bu _]
        exact Nat.le_trans (meet_gnlen _ _ _) (iv.inv _).len
theorem pl_gn {S : Sd} (iv : InvB S) {o : Or} {k : Int} : (placeP S o k).gn.length ≤ 100 := by
  unfold placeP
  split
  · unfold comeP metB
    dsimp only
    exact Nat.le_trans (meet_gnlen o _ _) (iv.inv _).len
  · exact Nat.zero_le _
section
variable {Pb : PbT} {w W : World} {G H : Nat} {g : Bool → Nat} {S : Sd} {t : Nat} {x : Op7}
set_option maxRecDepth 100000 in
set_option maxHeartbeats 8000000 in
theorem do7_any (K : BookK Pb) (h : Pw Pb W [] w G H g S S t) (ok : x.ok) (ht : t < 1000000000) :
    Calls Try.prog 15 #[.pointer (some ⟨G, 0, none⟩), .pointer (some ⟨H, 0, none⟩), .agg (EOp.cells x).toArray] w fun e w' => e = .returned (.bool true) ∧ Pw Pb W [] w' G H g (playS S x) (playS S x) (t + 1) := by
  have KH := Lib.hid K
  have IV := Lib.hid (h.inv K)
  have OK := Lib.hid ok
  have hzo := zero_or
  have hpx := zero_px
  obtain ⟨V, hV, bV, y5, y7, z7, z5⟩ := do_bx w x
  have P0 : Hid (Pw Pb W [orB (w.heap.size + 1) x.o, opB w.heap.size x] V G H g S S t) := Lib.hid (h.push K bV (Y := [orB (w.heap.size + 1) x.o, opB w.heap.size x]) (Xs.cons (one_in y5) y7) (fun p hp => by
    rcases List.mem_cons.1 hp with rfl | hp
    · exact Nat.le_succ _
    · rw [List.mem_singleton.1 hp]; exact Nat.le_refl _))
  have HV := Lib.hid hV
  have Z7 := Lib.hid z7
  have RG1 : Hid ((w.alloc (.cells (EOp.cells x).toArray 34)).rangeAt w.heap.size 1 (EO.cells x.o)) := Lib.hid (op_or (gbx_rng z5))
  have k0 : V.cell? ⟨w.heap.size, 0, none⟩ = some (.int .i64 x.kd) := gbx_cell y5 0
  clear K h ok hV bV y5 y7 z7 z5
  by_cases hk1 : x.kd = 1
  · have PS := Lib.hid (playS_1 (S := S) hk1)
    rw [hk1] at k0
    rw [PS.out]
    clear hk1
    have TDO := Lib.hid (td_ok (S := S) (o := x.o) (k := x.k) IV.out)
    have GNO := Lib.hid (pl_gn (S := S) (o := x.o) (k := x.k) IV.out)
    have u7 := Xs.or (b := w.heap.size + 1) (o := x.o) P0.out.xs (by simp)
    have u5 := Xs.op (b := w.heap.size) (x := x) P0.out.xs (by simp)
    have RGA := Lib.hid (gbx_rng u7)
    have c6 : V.cell? ⟨w.heap.size, 6, none⟩ = some (.int .u8 x.k) := gbx_cell u5 6
    clear u7 u5
    go_enter Try.func15, Try.ntmps15
    go_wp2_with (first | ((with_reducible refine gwl_load (d := some 29) TO w.heap.size 1 RG1.out ?_ ?_ ?_); rfl; rfl) | (refine gwl_store TO x.o (w.heap.size + 1) Z7.out rfl rfl ?_; rw [HV.out]) | ((with_reducible refine gwl_load (d := some 36) TO (w.heap.size + 1) 0 RGA.out ?_ ?_ ?_); rfl; rfl))
    refine (P0.out.pp KH.out (fun A h => KH.out.place (k := x.k) h OK.out.o ht)).mono ?_; rintro e w3 ⟨p, rfl, pp, pi, R3, r3, t3⟩
    obtain ⟨V3, hV3, bV3, yV3, zV3, sV3⟩ := put_px p (Below.refl w3.heap.size w3)
    have HV3 := Lib.hid hV3
    have ZV3 := Lib.hid zV3
    have P3 := Lib.hid (t3.push KH.out bV3 (Y := [pxB w3.heap.size p]) (one_in yV3) (fun y hy => by rw [List.mem_singleton.1 hy]; exact Nat.le_refl _))
    have PI3 := Lib.hid (pi.below bV3)
    have R3' := Lib.hid r3
    have PP := Lib.hid pp
    have u7 := Xs.or (b := w.heap.size + 1) (o := x.o) P3.out.xs (by simp)
    have u5 := Xs.op (b := w.heap.size) (x := x) P3.out.xs (by simp)
    have RGB := Lib.hid (gbx_rng u7)
    have d6 : V3.cell? ⟨w.heap.size, 6, none⟩ = some (.int .u8 x.k) := gbx_cell u5 6
    clear u7 u5 t3 hV3 bV3 yV3 zV3 sV3 pi pp r3 P0 k0 c6
    go_wp2_with (first | ((with_reducible refine wl_store_px p w3.heap.size ZV3.out ?_ ?_ ?_); rfl; rfl; rw [HV3.out]) | ((with_reducible refine gwl_load (d := some 44) TO (w.heap.size + 1) 0 RGB.out ?_ ?_ ?_); rfl; rfl))
    refine (P3.out.qq KH.out (fun B v h => bplace_any (k := x.k) _ h IV.out OK.out.o OK.out.k.1)).mono ?_; rintro e w4 ⟨q, rfl, qq, qi, R4, r4, t4⟩
    obtain ⟨V4, hV4, bV4, yV4, zV4, sV4⟩ := put_px q (Below.refl w4.heap.size w4)
    have HV4 := Lib.hid hV4
    have ZV4 := Lib.hid zV4
    have P4 := Lib.hid (t4.push KH.out bV4 (Y := [pxB w4.heap.size q]) (one_in yV4) (fun y hy => by rw [List.mem_singleton.1 hy]; exact Nat.le_refl _))
    have RP := Lib.hid (gbx_rng (Xs.px (b := w3.heap.size) (p := p) P4.out.xs (by simp)))
    have RQ := Lib.hid (gbx_rng yV4)
    have PI4 := PI3.out.at (X := [pxB w3.heap.size p] ++ (R3 ++ [orB (w.heap.size + 1) x.o, opB w.heap.size x])) (fun k hk => by obtain ⟨o, ho⟩ := R3'.out k hk; exact ⟨o, by simp [ho]⟩) P3.out.xs (fun y hy => P4.out.xs y (by simp only [List.mem_append] at hy ⊢; exact .inr (.inr hy)))
    have QI4 := qi.below bV4
    have SP := Lib.hid (bsp_same p q (placeP S x.o x.k).td (placeP S x.o x.k).gn V4 (gown_rd PI4.to) (gown_rd QI4.to) (gown_rd PI4.no) (gown_rd QI4.no) (PP.out.1.trans qq.1.symm) (PP.out.2.trans qq.2.symm) TDO.out.1 (by rw [PI4.tl]; have := TDO.out.2; omega) (by rw [PI4.nl]; have := GNO.out; omega))
    have PF := Lib.hid (P4.out.less (Y := []) (fun y hy => by cases hy))
    clear t4 hV4 bV4 yV4 zV4 sV4 qi qq r4 PI4 QI4 P4 P3 PI3 R3' PP d6
    generalize placeA S x.o x.k = ea
    go_wp2_with (first | ((with_reducible refine wl_store_px q w4.heap.size ZV4.out ?_ ?_ ?_); rfl; rfl; rw [HV4.out]) | ((with_reducible refine wl_load_px (s := p) w3.heap.size 0 RP.out ?_ ?_ ?_); rfl; rfl) | ((with_reducible refine wl_load_px (s := q) w4.heap.size 0 RQ.out ?_ ?_ ?_); rfl; rfl))
    refine SP.out.mono ?_; rintro e w9 ⟨rfl, q9⟩
    have P9 := Lib.hid (PF.out.below KH.out q9)
    clear q9
    go_wp2_with fail
    go_ret
    exact ⟨rfl, P9.out⟩
  by_cases hk2 : x.kd = 2
  · have PS := Lib.hid (playS_2 (S := S) hk2)
    rw [hk2] at k0
    rw [PS.out]
    clear hk1 hk2
    have TDO := Lib.hid (repl_tdok (S := S) (n := x.o.nu) (p := x.o.pr) (l := x.o.le) IV.out)
    have GNO := Lib.hid (repl_gn (S := S) (n := x.o.nu) (p := x.o.pr) (l := x.o.le) IV.out)
    have u7 := Xs.or (b := w.heap.size + 1) (o := x.o) P0.out.xs (by simp)
    have u5 := Xs.op (b := w.heap.size) (x := x) P0.out.xs (by simp)
    have c0 : V.cell? ⟨w.heap.size + 1, 0, none⟩ = some (.int .u64 x.o.nu) := gbx_cell u7 0
    have c3 : V.cell? ⟨w.heap.size + 1, 3, none⟩ = some (.int .i64 x.o.pr) := gbx_cell u7 3
    have c4 : V.cell? ⟨w.heap.size + 1, 4, none⟩ = some (.int .i64 x.o.le) := gbx_cell u7 4
    clear u7 u5
    go_enter Try.func15, Try.ntmps15
    go_wp2_with (first | ((with_reducible refine gwl_load (d := some 29) TO w.heap.size 1 RG1.out ?_ ?_ ?_); rfl; rfl) | (refine gwl_store TO x.o (w.heap.size + 1) Z7.out rfl rfl ?_; rw [HV.out]))
    refine (P0.out.pp KH.out (fun A h => KH.out.repl (n := x.o.nu) (p := x.o.pr) (l := x.o.le) h OK.out.o.nu OK.out.o.pr OK.out.o.le ht)).mono ?_; rintro e w3 ⟨p, rfl, pp, pi, R3, r3, t3⟩
    obtain ⟨V3, hV3, bV3, yV3, zV3, sV3⟩ := put_px p (Below.refl w3.heap.size w3)
    have HV3 := Lib.hid hV3
    have ZV3 := Lib.hid zV3
    have P3 := Lib.hid (t3.push KH.out bV3 (Y := [pxB w3.heap.size p]) (one_in yV3) (fun y hy => by rw [List.mem_singleton.1 hy]; exact Nat.le_refl _))
    have PI3 := Lib.hid (pi.below bV3)
    have R3' := Lib.hid r3
    have PP := Lib.hid pp
    have u7 := Xs.or (b := w.heap.size + 1) (o := x.o) P3.out.xs (by simp)
    have u5 := Xs.op (b := w.heap.size) (x := x) P3.out.xs (by simp)
    have d0 : V3.cell? ⟨w.heap.size + 1, 0, none⟩ = some (.int .u64 x.o.nu) := gbx_cell u7 0
    have d3 : V3.cell? ⟨w.heap.size + 1, 3, none⟩ = some (.int .i64 x.o.pr) := gbx_cell u7 3
    have d4 : V3.cell? ⟨w.heap.size + 1, 4, none⟩ = some (.int .i64 x.o.le) := gbx_cell u7 4
    clear u7 u5 t3 hV3 bV3 yV3 zV3 sV3 pi pp r3 P0 k0 c0 c3 c4
    go_wp2_with (first | ((with_reducible refine wl_store_px p w3.heap.size ZV3.out ?_ ?_ ?_); rfl; rfl; rw [HV3.out]))
    refine (P3.out.qq KH.out (fun B v h => brepl_any (n := x.o.nu) (p := x.o.pr) (l := x.o.le) _ h IV.out OK.out.o.nu OK.out.o.pr OK.out.o.le)).mono ?_; rintro e w4 ⟨q, rfl, qq, qi, R4, r4, t4⟩
    obtain ⟨V4, hV4, bV4, yV4, zV4, sV4⟩ := put_px q (Below.refl w4.heap.size w4)
    have HV4 := Lib.hid hV4
    have ZV4 := Lib.hid zV4
    have P4 := Lib.hid (t4.push KH.out bV4 (Y := [pxB w4.heap.size q]) (one_in yV4) (fun y hy => by rw [List.mem_singleton.1 hy]; exact Nat.le_refl _))
    have RP := Lib.hid (gbx_rng (Xs.px (b := w3.heap.size) (p := p) P4.out.xs (by simp)))
    have RQ := Lib.hid (gbx_rng yV4)
    have PI4 := PI3.out.at (X := [pxB w3.heap.size p] ++ (R3 ++ [orB (w.heap.size + 1) x.o, opB w.heap.size x])) (fun k hk => by obtain ⟨o, ho⟩ := R3'.out k hk; exact ⟨o, by simp [ho]⟩) P3.out.xs (fun y hy => P4.out.xs y (by simp only [List.mem_append] at hy ⊢; exact .inr (.inr hy)))
    have QI4 := qi.below bV4
    have SP := Lib.hid (bsp_same p q (replP S x.o.nu x.o.pr x.o.le).td (replP S x.o.nu x.o.pr x.o.le).gn V4 (gown_rd PI4.to) (gown_rd QI4.to) (gown_rd PI4.no) (gown_rd QI4.no) (PP.out.1.trans qq.1.symm) (PP.out.2.trans qq.2.symm) TDO.out.1 (by rw [PI4.tl]; have := TDO.out.2; omega) (by rw [PI4.nl]; have := GNO.out; omega))
    have PF := Lib.hid (P4.out.less (Y := []) (fun y hy => by cases hy))
    clear t4 hV4 bV4 yV4 zV4 sV4 qi qq r4 PI4 QI4 P4 P3 PI3 R3' PP d0 d3 d4
    generalize replA S x.o.nu x.o.pr x.o.le = ea
    go_wp2_with (first | ((with_reducible refine wl_store_px q w4.heap.size ZV4.out ?_ ?_ ?_); rfl; rfl; rw [HV4.out]) | ((with_reducible refine wl_load_px (s := p) w3.heap.size 0 RP.out ?_ ?_ ?_); rfl; rfl) | ((with_reducible refine wl_load_px (s := q) w4.heap.size 0 RQ.out ?_ ?_ ?_); rfl; rfl))
    refine SP.out.mono ?_; rintro e w9 ⟨rfl, q9⟩
    have P9 := Lib.hid (PF.out.below KH.out q9)
    clear q9
    go_wp2_with fail
    go_ret
    exact ⟨rfl, P9.out⟩
  by_cases hk3 : x.kd = 3
  · have PS : Hid (playS S x = cancS S x.o.nu) := Lib.hid (by unfold playS; rw [if_neg hk1, if_neg hk2, if_pos hk3])
    rw [hk3] at k0
    rw [PS.out]
    clear hk1 hk2 hk3
    have u7 := Xs.or (b := w.heap.size + 1) (o := x.o) P0.out.xs (by simp)
    have c0 : V.cell? ⟨w.heap.size + 1, 0, none⟩ = some (.int .u64 x.o.nu) := gbx_cell u7 0
    clear u7
    have YOK := Lib.hid (take_ok IV.out x.o.nu)
    obtain ⟨y, hy⟩ : ∃ y, takeX S x.o.nu = y := ⟨_, rfl⟩
    obtain ⟨ev, hev⟩ : ∃ ev, takeA S x.o.nu = ev := ⟨_, rfl⟩
    have HY := Lib.hid hy
    have HE := Lib.hid hev
    rw [hy] at YOK
    clear hy hev
    go_enter Try.func15, Try.ntmps15
    go_wp2_with (first | ((with_reducible refine gwl_load (d := some 29) TO w.heap.size 1 RG1.out ?_ ?_ ?_); rfl; rfl) | (refine gwl_store TO x.o (w.heap.size + 1) Z7.out rfl rfl ?_; rw [HV.out]))
    refine (P0.out.c KH.out (R := fun e => e = .returned (.tuple #[.agg (EO.cells y).toArray, .int .i64 ev])) (fun A h => by rw [← HY.out, ← HE.out]; exact KH.out.canc (n := x.o.nu) h OK.out.o.nu)).mono ?_; rintro e w3 ⟨rfl, t3⟩
    obtain ⟨V3, hV3, bV3, yV3, zV3, sV3⟩ := put_or y (Below.refl w3.heap.size w3)
    have HV3 := Lib.hid hV3
    have ZV3 := Lib.hid zV3
    have P3 := Lib.hid (t3.push KH.out bV3 (Y := [orB w3.heap.size y]) (one_in yV3) (fun z hz => by rw [List.mem_singleton.1 hz]; exact Nat.le_refl _))
    have u7 := Xs.or (b := w.heap.size + 1) (o := x.o) P3.out.xs (by simp)
    have d0 : V3.cell? ⟨w.heap.size + 1, 0, none⟩ = some (.int .u64 x.o.nu) := gbx_cell u7 0
    clear u7 t3 hV3 bV3 yV3 zV3 sV3 P0 c0
    go_wp2_with (refine gwl_store TO y w3.heap.size ZV3.out rfl rfl ?_; rw [HV3.out])
    refine (P3.out.d KH.out (R := fun e => e = .returned (.tuple #[.agg (EO.cells y).toArray, .int .i64 ev])) (fun B v h => by rw [← HY.out, ← HE.out]; exact bcan_any _ h OK.out.o.nu)).mono ?_; rintro e w4 ⟨rfl, t4⟩
    obtain ⟨V4, hV4, bV4, yV4, zV4, sV4⟩ := put_or y (Below.refl w4.heap.size w4)
    have HV4 := Lib.hid hV4
    have ZV4 := Lib.hid zV4
    have P4 := Lib.hid (t4.push KH.out bV4 (Y := [orB w4.heap.size y]) (one_in yV4) (fun z hz => by rw [List.mem_singleton.1 hz]; exact Nat.le_refl _))
    have RA := Lib.hid (gbx_rng (Xs.or (b := w3.heap.size) (o := y) P4.out.xs (by simp)))
    have RB := Lib.hid (gbx_rng yV4)
    have PF := Lib.hid ((P4.out.less (Y := []) (fun y hy => by cases hy)).more KH.out (Nat.le_succ t))
    clear t4 hV4 bV4 yV4 zV4 sV4 P4 P3 d0 k0
    go_wp2_with (first | (refine gwl_store TO y w4.heap.size ZV4.out rfl rfl ?_; rw [HV4.out]) | ((with_reducible refine gwl_load (d := some 106) TO w3.heap.size 0 RA.out ?_ ?_ ?_); rfl; rfl; try simp only [Act.put, List.setIfInBounds_toArray, List.set_cons_zero, List.set_cons_succ]) | ((with_reducible refine gwl_load (d := some 107) TO w4.heap.size 0 RB.out ?_ ?_ ?_); rfl; rfl; try simp only [Act.put, List.setIfInBounds_toArray, List.set_cons_zero, List.set_cons_succ]) | ((with_reducible refine wl_eql_or0 YOK.out ?_ ?_ ?_ ?_); rfl; rfl; rfl))
    go_ret
    exact ⟨rfl, PF.out⟩
  by_cases hk4 : x.kd = 4
  · have PS : Hid (playS S x = massS S x.o.ac) := Lib.hid (by unfold playS; rw [if_neg hk1, if_neg hk2, if_neg hk3, if_pos hk4])
    rw [hk4] at k0
    rw [PS.out]
    clear hk1 hk2 hk3 hk4
    have MO := Lib.hid (mass_ok IV.out x.o.ac)
    obtain ⟨ml, hml⟩ : ∃ ml, massX S x.o.ac = ml := ⟨_, rfl⟩
    have HML := Lib.hid hml
    rw [hml] at MO
    clear hml
    obtain ⟨SS, hSS⟩ : ∃ SS : World → Prop, SS = fun U => ∃ S' T', Pw Pb W [orB (w.heap.size + 1) x.o, opB w.heap.size x] U G H g S' T' t := ⟨_, rfl⟩
    have XC : Hid (∀ U, SS U → U.cell? ⟨w.heap.size + 1, 1, none⟩ = some (.int .u32 x.o.ac)) := Lib.hid fun U hU => by
      rw [hSS] at hU
      obtain ⟨_, _, h⟩ := hU
      exact gbx_cell (Xs.or (b := w.heap.size + 1) (o := x.o) h.xs (by simp)) 1
    go_enter Try.func15, Try.ntmps15
    go_wp2_with (first | ((with_reducible refine gwl_load (d := some 29) TO w.heap.size 1 RG1.out ?_ ?_ ?_); rfl; rfl) | (refine gwl_store TO x.o (w.heap.size + 1) Z7.out rfl rfl ?_; rw [HV.out]))
    have PD := Lib.hid (P0.out.below KH.out (Below.refl V.heap.size V).drew)
    clear P0 k0
    refine wp_region_held_drew (S := SS) (by kernel_rfl) (by rw [hSS]; exact ⟨_, _, PD.out⟩) (fun hH => ?_)
    refine wpAnyH_take (i := 0) (v := .pointer (some ⟨G, 0, none⟩)) rfl (by kernel_rfl) (by kernel_rfl) (by kernel_rfl) (fun _ _ _ h => h) (.inl ⟨by rfl, ?_⟩) (by assumption) ?_
    · intro W hW; go_simp
    try simp only [List.getElem_toArray, List.getElem_cons_zero, Act.put, List.setIfInBounds_toArray, List.set_cons_zero, List.set_cons_succ]
    refine wpAnyH_take (i := 1) (v := .pointer (some ⟨w.heap.size + 1, 1, none⟩)) rfl (by kernel_rfl) (by kernel_rfl) (by kernel_rfl) (fun _ _ _ h => h) (.inl ⟨by rfl, ?_⟩) (by assumption) ?_
    · intro W hW; go_simp
    try simp only [List.getElem_toArray, List.getElem_cons_zero, List.getElem_cons_succ, Act.put, List.setIfInBounds_toArray, List.set_cons_zero, List.set_cons_succ]
    refine wpAnyH_take (i := 2) (v := .int .u32 x.o.ac) rfl (by kernel_rfl) (by kernel_rfl) (by kernel_rfl) (fun _ _ _ h => h) (.inl ⟨by rfl, ?_⟩) (by assumption) ?_
    · intro W hW; have k := XC.out W hW; go_simp
    try simp only [List.getElem_toArray, List.getElem_cons_zero, List.getElem_cons_succ, Act.put, List.setIfInBounds_toArray, List.set_cons_zero, List.set_cons_succ]
    refine wpAnyH_take (i := 4) (v := .pointer (some ⟨H, 0, none⟩)) rfl (by kernel_rfl) (by kernel_rfl) (by kernel_rfl) (fun _ _ _ h => h) (.inl ⟨by rfl, ?_⟩) (by assumption) ?_
    · intro W hW; go_simp
    try simp only [List.getElem_toArray, List.getElem_cons_zero, List.getElem_cons_succ, Act.put, List.setIfInBounds_toArray, List.set_cons_zero, List.set_cons_succ]
    refine wpAnyH_take (i := 5) (v := .pointer (some ⟨w.heap.size + 1, 1, none⟩)) rfl (by kernel_rfl) (by kernel_rfl) (by kernel_rfl) (fun _ _ _ h => h) (.inl ⟨by rfl, ?_⟩) (by assumption) ?_
    · intro W hW; go_simp
    try simp only [List.getElem_toArray, List.getElem_cons_zero, List.getElem_cons_succ, Act.put, List.setIfInBounds_toArray, List.set_cons_zero, List.set_cons_succ]
    refine wpAnyH_take (i := 6) (v := .int .u32 x.o.ac) rfl (by kernel_rfl) (by kernel_rfl) (by kernel_rfl) (fun _ _ _ h => h) (.inl ⟨by rfl, ?_⟩) (by assumption) ?_
    · intro W hW; have k := XC.out W hW; go_simp
    try simp only [List.getElem_toArray, List.getElem_cons_zero, List.getElem_cons_succ, Act.put, List.setIfInBounds_toArray, List.set_cons_zero, List.set_cons_succ]
    refine wpAnyH_ready (rs := [3]) (by decide +kernel) (by simp) (AllReadyH.cons rfl (fun KQ hK => ?_) AllReadyH.nil)
    go_simp
    refine (PD.out.m KH.out).mono ?_; rintro e0 W2 ⟨u1, rfl, uo1, R1, r1, t1⟩
    rw [HML.out] at uo1
    have T1 := Lib.hid t1
    have UO1 := Lib.hid uo1
    have R1' := Lib.hid r1
    refine hK.out _ _ (by rw [hSS]; exact ⟨_, _, t1.less (fun y hy => List.mem_append_right _ hy)⟩) (fun _ => ?_)
    clear hK hH t1 uo1 r1
    try simp only [List.setIfInBounds_toArray, List.set_cons_zero, List.set_cons_succ]
    refine wpAnyH_ready (rs := [7]) (by decide +kernel) (by simp) (AllReadyH.cons rfl (fun KQ hK => ?_) AllReadyH.nil)
    go_simp
    refine (T1.out.n KH.out IV.out.inv OK.out.o.ac).mono ?_; rintro e0 W3 ⟨u2, rfl, uo2, R2, r2, t2⟩
    rw [HML.out] at uo2
    have UP1 := gown_same UO1.out (fun k hk => Xs.same (X := R1 ++ [orB (w.heap.size + 1) x.o, opB w.heap.size x]) T1.out.xs (fun y hy => t2.xs y (List.mem_append_right _ hy)) (by obtain ⟨o, ho⟩ := R1'.out k hk; exact ⟨o, List.mem_append_left _ ho⟩))
    have TF := Lib.hid t2
    have UA := Lib.hid UP1
    have UB := Lib.hid uo2
    refine hK.out _ _ (by rw [hSS]; exact ⟨_, _, t2.less (fun y hy => List.mem_append_right _ (List.mem_append_right _ hy))⟩) (fun _ => ?_)
    clear hK t2 uo2 r2 UP1 T1 UO1
    try simp only [List.setIfInBounds_toArray, List.set_cons_zero, List.set_cons_succ]
    obtain ⟨a1, n1, c1, rfl⟩ := gown_any UA.out
    obtain ⟨a2, n2, c2, rfl⟩ := gown_any UB.out
    have RD1 := gown_rd UA.out
    have RD2 := gown_rd UB.out
    have SO := Lib.hid (bsame_any a1 a2 n1 n2 c1 c2 ml ml W3 RD1 RD2 MO.out.1 MO.out.1 (by rw [← RD1.1]; have := MO.out.2; omega) (by rw [← RD2.1]; have := MO.out.2; omega))
    rw [eqL_yes] at SO
    clear RD1 RD2
    refine wpAnyH_ready (rs := [8]) (by decide +kernel) (by simp) (AllReadyH.cons rfl (fun KQ hK => ?_) AllReadyH.nil)
    go_simp
    refine SO.out.mono ?_; rintro e0 W4 ⟨rfl, q4⟩
    have TG := TF.out.below KH.out q4
    have PF := Lib.hid ((TG.less (Y := []) (fun y hy => by cases hy)).more KH.out (Nat.le_succ t))
    refine hK.out _ _ (by rw [hSS]; exact ⟨_, _, TG.less (fun y hy => List.mem_append_right _ (List.mem_append_right _ hy))⟩) (fun hH => ?_)
    clear hK q4 TG TF
    try simp only [List.setIfInBounds_toArray, List.set_cons_zero, List.set_cons_succ]
    refine wpAnyH_take (i := 9) (v := .bool true) rfl (by kernel_rfl) (by kernel_rfl) (by kernel_rfl) (fun _ _ _ h => h) (.inl ⟨by rfl, ?_⟩) (by assumption) ?_
    · intro W hW; go_simp
    try simp only [List.getElem_toArray, List.getElem_cons_zero, List.getElem_cons_succ, Act.put, List.setIfInBounds_toArray, List.set_cons_zero, List.set_cons_succ]
    refine wpAnyH_done (by decide +kernel) ?_ _
    clear hH
    go_wp2_with fail
    go_ret
    exact ⟨rfl, PF.out⟩
  have PS : Hid (playS S x = S) := Lib.hid (by unfold playS; rw [if_neg hk1, if_neg hk2, if_neg hk3, if_neg hk4])
  rw [PS.out]
  by_cases hk5 : x.kd = 5
  · rw [hk5] at k0
    clear hk1 hk2 hk3 hk4 hk5
    have u7 := Xs.or (b := w.heap.size + 1) (o := x.o) P0.out.xs (by simp)
    have c1 : V.cell? ⟨w.heap.size + 1, 1, none⟩ = some (.int .u32 x.o.ac) := gbx_cell u7 1
    clear u7
    obtain ⟨oa, hoa⟩ : ∃ oa, opn true x.o.ac S.all = oa := ⟨_, rfl⟩
    obtain ⟨ob, hob⟩ : ∃ ob, opn false x.o.ac S.all = ob := ⟨_, rfl⟩
    have HA := Lib.hid hoa
    have HB := Lib.hid hob
    clear hoa hob
    go_enter Try.func15, Try.ntmps15
    go_wp2_with (first | ((with_reducible refine gwl_load (d := some 29) TO w.heap.size 1 RG1.out ?_ ?_ ?_); rfl; rfl) | (refine gwl_store TO x.o (w.heap.size + 1) Z7.out rfl rfl ?_; rw [HV.out]))
    refine (P0.out.cb KH.out (R := fun e => e = .returned (.tuple #[.int .i64 oa, .int .i64 ob])) (fun A h => by rw [← HA.out, ← HB.out]; exact KH.out.opens h)).mono ?_; rintro e w3 ⟨rfl, t3⟩
    have P3 := Lib.hid t3
    have u7 := Xs.or (b := w.heap.size + 1) (o := x.o) P3.out.xs (by simp)
    have d1 : w3.cell? ⟨w.heap.size + 1, 1, none⟩ = some (.int .u32 x.o.ac) := gbx_cell u7 1
    clear u7 t3 P0 c1
    go_wp2_with fail
    refine (P3.out.db KH.out (R := fun e => e = .returned (.tuple #[.int .i64 oa, .int .i64 ob])) (fun B v h => by rw [← HA.out, ← HB.out]; exact bopen_any _ h OK.out.o.ac)).mono ?_; rintro e w4 ⟨rfl, t4⟩
    have PF := Lib.hid ((t4.less (Y := []) (fun y hy => by cases hy)).more KH.out (Nat.le_succ t))
    clear t4 P3 d1 k0
    go_wp2_with fail
    go_ret
    exact ⟨rfl, PF.out⟩
  have e1 : (x.kd == 1) = false := beq_eq_false_iff_ne.2 hk1
  have e2 : (x.kd == 2) = false := beq_eq_false_iff_ne.2 hk2
  have e3 : (x.kd == 3) = false := beq_eq_false_iff_ne.2 hk3
  have e4 : (x.kd == 4) = false := beq_eq_false_iff_ne.2 hk4
  have e5 : (x.kd == 5) = false := beq_eq_false_iff_ne.2 hk5
  clear hk1 hk2 hk3 hk4 hk5
  have u7 := Xs.or (b := w.heap.size + 1) (o := x.o) P0.out.xs (by simp)
  have c0 : V.cell? ⟨w.heap.size + 1, 0, none⟩ = some (.int .u64 x.o.nu) := gbx_cell u7 0
  clear u7
  have YOK := Lib.hid (take_ok IV.out x.o.nu)
  obtain ⟨y, hy⟩ : ∃ y, takeX S x.o.nu = y := ⟨_, rfl⟩
  obtain ⟨ev, hev⟩ : ∃ ev, takeA S x.o.nu = ev := ⟨_, rfl⟩
  have HY := Lib.hid hy
  have HE := Lib.hid hev
  rw [hy] at YOK
  clear hy hev
  go_enter Try.func15, Try.ntmps15
  go_wp2_with (first | ((with_reducible refine gwl_load (d := some 29) TO w.heap.size 1 RG1.out ?_ ?_ ?_); rfl; rfl) | (refine gwl_store TO x.o (w.heap.size + 1) Z7.out rfl rfl ?_; rw [HV.out]))
  refine (P0.out.cb KH.out (R := fun e => e = .returned (.tuple #[.agg (EO.cells y).toArray, .int .i64 ev])) (fun A h => by rw [← HY.out, ← HE.out]; exact KH.out.get (n := x.o.nu) h OK.out.o.nu)).mono ?_; rintro e w3 ⟨rfl, t3⟩
  obtain ⟨V3, hV3, bV3, yV3, zV3, sV3⟩ := put_or y (Below.refl w3.heap.size w3)
  have HV3 := Lib.hid hV3
  have ZV3 := Lib.hid zV3
  have P3 := Lib.hid (t3.push KH.out bV3 (Y := [orB w3.heap.size y]) (one_in yV3) (fun z hz => by rw [List.mem_singleton.1 hz]; exact Nat.le_refl _))
  have u7 := Xs.or (b := w.heap.size + 1) (o := x.o) P3.out.xs (by simp)
  have d0 : V3.cell? ⟨w.heap.size + 1, 0, none⟩ = some (.int .u64 x.o.nu) := gbx_cell u7 0
  clear u7 t3 hV3 bV3 yV3 zV3 sV3 P0 c0
  go_wp2_with (refine gwl_store TO y w3.heap.size ZV3.out rfl rfl ?_; rw [HV3.out])
  refine (P3.out.db KH.out (R := fun e => e = .returned (.tuple #[.agg (EO.cells y).toArray, .int .i64 ev])) (fun B v h => by rw [← HY.out, ← HE.out]; exact bget_any _ h OK.out.o.nu)).mono ?_; rintro e w4 ⟨rfl, t4⟩
  obtain ⟨V4, hV4, bV4, yV4, zV4, sV4⟩ := put_or y (Below.refl w4.heap.size w4)
  have HV4 := Lib.hid hV4
  have ZV4 := Lib.hid zV4
  have P4 := Lib.hid (t4.push KH.out bV4 (Y := [orB w4.heap.size y]) (one_in yV4) (fun z hz => by rw [List.mem_singleton.1 hz]; exact Nat.le_refl _))
  have RA := Lib.hid (gbx_rng (Xs.or (b := w3.heap.size) (o := y) P4.out.xs (by simp)))
  have RB := Lib.hid (gbx_rng yV4)
  have PF := Lib.hid ((P4.out.less (Y := []) (fun y hy => by cases hy)).more KH.out (Nat.le_succ t))
  clear t4 hV4 bV4 yV4 zV4 sV4 P4 P3 d0
  go_wp2_with (first | (refine gwl_store TO y w4.heap.size ZV4.out rfl rfl ?_; rw [HV4.out]) | ((with_reducible refine gwl_load (d := some 163) TO w3.heap.size 0 RA.out ?_ ?_ ?_); rfl; rfl; try simp only [Act.put, List.setIfInBounds_toArray, List.set_cons_zero, List.set_cons_succ]) | ((with_reducible refine gwl_load (d := some 164) TO w4.heap.size 0 RB.out ?_ ?_ ?_); rfl; rfl; try simp only [Act.put, List.setIfInBounds_toArray, List.set_cons_zero, List.set_cons_succ]) | ((with_reducible refine wl_eql_or0 YOK.out ?_ ?_ ?_ ?_); rfl; rfl; rfl))
  go_ret
  exact ⟨rfl, PF.out⟩
end
end Go.Proofs.Ytdcjgcjnfcahkaa
