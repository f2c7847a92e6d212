/- ExposeGrows, walked (by genExx.py). -/
import Derived.Test.YtcpcnjiphiokjaaExq
namespace Go.Proofs.Ytcpcnjiphiokjaa
open Go.RowKit Go.Shelf
set_option linter.unusedVariables false
set_option linter.unusedSimpArgs false

set_option maxRecDepth 100000 in
set_option maxHeartbeats 16000000 in
theorem grows11_all (A : Option Addr) (n c : Nat) (l : List Sk) (at' : Int) (more : Or) (w : World) (h : EK.Rd w A n l) (hok : ∀ x, x ∈ l → x.ok ∧ x.In w) (hn : n ≤ maxLen) (h0 : A = none → c = 0) (ha : I64 at') (okm : more.ok) :
    Calls Try.prog 5 #[.slice A n c, .int .i64 at', .agg (EO.cells more).toArray] w fun e w' => e = .returned (.bool true) ∧ Below w.heap.size w w' := by
  obtain ⟨W1, hW1⟩ : ∃ W1, w.alloc (.cells (EO.cells more).toArray 41) = W1 := ⟨_, rfl⟩
  have m1 : EO.Bx 41 W1 w.heap.size more := by rw [← hW1]; exact gbx_new w _
  have b1 : Below w.heap.size w W1 := by rw [← hW1]; exact below_new w _
  have h1 := grd_below h b1 (Nat.le_refl _)
  have hok1 : ∀ x, x ∈ l → x.ok ∧ x.In W1 := fun x hx => ⟨(hok x hx).1, grd_below (hok x hx).2 b1 (Nat.le_refl _)⟩
  have KN := Lib.hid fun (U : World) (qU : Below W1.heap.size W1 U) => (known11 U).mono (fun e W h => (⟨h.1, b1.trans ((qU.trans (h.2.mono qU.size)).mono b1.size)⟩ : e = .returned (.bool true) ∧ Below w.heap.size w W))
  have LG := Lib.hid (large11 A n c l W1 h1 hok1 hn)
  have ND := Lib.hid (need11 A n c l W1 h1 hok1 hn)
  have HR := Lib.hid fun (W : World) (q : Below W1.heap.size W1 W) => (show EK.Rd W A n l from grd_below h1 q (Nat.le_refl _))
  have HI := Lib.hid fun (W : World) (q : Below W1.heap.size W1 W) (x : Sk) (hx : x ∈ l) => (show x.ok ∧ x.In W from ⟨(hok x hx).1, grd_below (hok1 x hx).2 q (Nat.le_refl _)⟩)
  have HM := Lib.hid fun (W : World) (q : Below W1.heap.size W1 W) => (show EO.Bx 41 W w.heap.size more from gbx_below m1 q)
  have HL := Lib.hid h1.1
  have H0 := Lib.hid h0
  have HW := Lib.hid hW1
  have OM := Lib.hid okm
  have B0 := Lib.hid b1
  have LB : Hid (lgB l = false → l.length ≤ 40 ∧ ∀ x, x ∈ l → x.os.length ≤ 300) := Lib.hid fun hh => by
    unfold lgB at hh
    rw [Bool.or_eq_false_iff, List.any_eq_false] at hh
    refine ⟨by have := of_decide_eq_false hh.1; omega, fun x hx => ?_⟩
    have := hh.2 x hx
    simpa using this
  unfold maxLen at hn
  generalize lgB l = lb at *
  cases lb
  case true =>
    clear h h1 hok hok1 m1 b1 hW1
    go_enter Try.func5, Try.ntmps5
    go_wp2_with (rw [HW.out])
    refine LG.out.mono ?_; rintro e w2 ⟨rfl, rfl⟩
    go_wp2_with fail
    refine (KN.out _ (Below.refl _ _)).mono ?_; rintro e w3 ⟨rfl, q3⟩
    have Q3 := Lib.hid q3
    clear q3
    go_wp2_with fail
    go_ret
    exact ⟨rfl, Q3.out⟩
  obtain ⟨l40, os300⟩ := LB.out rfl
  have O300 := Lib.hid os300
  have hn40 : n ≤ 40 := by have := h1.1; omega
  clear LB os300
  by_cases c1 : neE l = 0
  case neg =>
    have c2 : (neE l != 0) = true := bne_iff_ne.2 c1
    rw [ne_bad c1, zero_cells11] at ND
    generalize neE l = me at *
    clear h h1 hok hok1 m1 b1 hW1 c1
    go_enter Try.func5, Try.ntmps5
    go_wp2_with (rw [HW.out])
    refine LG.out.mono ?_; rintro e w2 ⟨rfl, rfl⟩
    go_wp2_with fail
    refine ND.out.mono ?_; rintro e w2 ⟨rfl, q2⟩
    have Q2 := Lib.hid (q2.trans ((below_new w2 (.cells #[.int .i64 0, .int .i64 0, .int .i64 0] 35)).mono q2.size))
    clear q2
    go_wp2_with fail
    refine (KN.out _ Q2.out).mono ?_; rintro e w3 ⟨rfl, q3⟩
    have Q3 := Lib.hid q3
    clear q3
    go_wp2_with fail
    go_ret
    exact ⟨rfl, Q3.out⟩
  have NB := Lib.hid (ne_bd c1)
  have NT := Lib.hid (ne_total c1)
  have C1 := Lib.hid c1
  have BN := Lib.hid (bare_ne c1)
  have MN := Lib.hid fun (k : Nat) (x y : Sk) (hx : l[k]? = some x) => more_ne (y := y) (o := more) c1 hx
  rw [c1, nd_cells] at ND
  obtain ⟨m, hm⟩ : ∃ v, (neN l).m = v := ⟨_, rfl⟩
  obtain ⟨p, hp⟩ : ∃ v, (neN l).w = v := ⟨_, rfl⟩
  obtain ⟨u, hu⟩ : ∃ v, (neN l).u = v := ⟨_, rfl⟩
  have en : neN l = ⟨m, p, u⟩ := by rw [← hm, ← hp, ← hu]
  obtain ⟨⟨m0, m9⟩, ⟨p0, p9⟩, u0, u9⟩ := NB.out
  obtain ⟨t0, t9⟩ := NT.out
  have TOT := Lib.hid fun W => total11 ⟨m, p, u⟩ W (by rw [← en]; exact ⟨by unfold I64; omega, by unfold I64; omega, by unfold I64; omega⟩)
  rw [en] at t0 t9
  rw [hm] at m0 m9
  rw [hp] at p0 p9
  rw [hu] at u0 u9
  rw [nd_cells] at TOT
  dsimp only at TOT
  rw [hm, hp, hu] at ND MN
  rw [hm, hu] at BN
  generalize toN ⟨m, p, u⟩ = t at *
  have d1 : decide (m < 0) = false := decide_eq_false (by omega)
  have d2 : decide (p < 0) = false := decide_eq_false (by omega)
  have d3 : decide (u < 0) = false := decide_eq_false (by omega)
  have d4 : decide (100000000000000000 < t) = false := decide_eq_false (by omega)
  have d5 : decide (t < 0) = false := decide_eq_false (by omega)
  clear h h1 hok hok1 m1 b1 hW1 NB NT hm hp hu en c1
  go_enter Try.func5, Try.ntmps5
  go_wp2_with (rw [HW.out])
  refine LG.out.mono ?_; rintro e w2 ⟨rfl, rfl⟩
  go_wp2_with fail
  refine ND.out.mono ?_; rintro e w2 ⟨rfl, q2⟩
  obtain ⟨W3, hW3⟩ : ∃ W, w2.alloc (.cells #[.int .i64 m, .int .i64 p, .int .i64 u] 35) = W := ⟨_, rfl⟩
  have n3 : EN.Bx 35 W3 w2.heap.size ⟨m, p, u⟩ := by rw [← hW3]; exact gbx_new (E := EN) w2 ⟨m, p, u⟩
  have Q3 := Lib.hid (q2.trans ((show Below w2.heap.size w2 W3 by rw [← hW3]; exact below_new w2 _).mono q2.size))
  have NA := Lib.hid fun (W : World) (q : Below W3.heap.size W3 W) => (show EN.Bx 35 W w2.heap.size ⟨m, p, u⟩ from gbx_below n3 q)
  have k0 : W3.cell? ⟨w2.heap.size, 0, none⟩ = some (.int .i64 m) := gbx_cell n3 0
  have k1 : W3.cell? ⟨w2.heap.size, 1, none⟩ = some (.int .i64 p) := gbx_cell n3 1
  have k2 : W3.cell? ⟨w2.heap.size, 2, none⟩ = some (.int .i64 u) := gbx_cell n3 2
  have HW3 := Lib.hid hW3
  clear q2 n3 hW3
  go_wp2_with (rw [HW3.out])
  refine (TOT.out _).mono ?_; rintro e w4 ⟨rfl, q4⟩
  have k0' : w4.cell? ⟨w2.heap.size, 0, none⟩ = some (.int .i64 m) := gbx_cell (NA.out w4 q4) 0
  have k1' : w4.cell? ⟨w2.heap.size, 1, none⟩ = some (.int .i64 p) := gbx_cell (NA.out w4 q4) 1
  have k2' : w4.cell? ⟨w2.heap.size, 2, none⟩ = some (.int .i64 u) := gbx_cell (NA.out w4 q4) 2
  have Q4 := Lib.hid q4
  clear q4 k0 k1 k2
  go_wp2_with fail
  refine (TOT.out _).mono ?_; rintro e w5 ⟨rfl, q5⟩
  have Q5 := Lib.hid (Q4.out.trans (q5.mono Q4.out.size))
  clear q5 k0' k1' k2'
  have O0 := Lib.hid (gown_new (E := EK) (te := 33) w5)
  have Q6 := Lib.hid (Q5.out.trans ((below_new w5 (.cells #[] 33)).mono Q5.out.size))
  have RD0 := Lib.hid (HR.out _ (Q3.out.trans (Q6.out.mono Q3.out.size)))
  have hl0 : l.length = n := HL.out
  go_wp2_with (first
    | (at_builtin
       refine gpl_app TK rfl _ _ rfl w5.heap.size _ [] rfl O0.out A n c l rfl RD0.out H0.out (by simp; omega) (by simp) ?_
       intro v7 w7 h1 h2 h3
       rw [List.nil_append] at h1
       obtain ⟨A7, c7, rfl, h07⟩ := gown_form h1
       rw [hl0] at h1 ⊢
       have OW7 := Lib.hid h1
       have Q7 := Lib.hid (Q6.out.grown h2 Q6.out.size (fun k e => (by cases e; exact Q5.out.size)))
       have L7 := Lib.hid fun k hk => (gown_lt h1 (k := k) hk).2
       have G7 := Lib.hid h2.size
       have O1 := Lib.hid (gown_new (E := EK) (te := 33) w7)
       have Q8 := Lib.hid (Q7.out.trans ((below_new w7 (.cells #[] 33)).mono Q7.out.size))
       have RD1 := Lib.hid (HR.out _ (Q3.out.trans (Q8.out.mono Q3.out.size)))
       clear h1 h2 h3)
    | (at_builtin
       refine gpl_app TK rfl _ _ rfl w7.heap.size _ [] rfl O1.out A n c l rfl RD1.out H0.out (by simp; omega) (by simp) ?_
       intro v9 w9 g1 g2 g3
       rw [List.nil_append] at g1
       obtain ⟨A9, c9, rfl, h09⟩ := gown_form g1
       rw [hl0] at g1 ⊢))
  have GB : Gb W3 w5.heap.size w7.heap.size (.slice A7 n c7) (.slice A9 n c9) (baK l 0) l w9 := by
    rw [ba_zero]
    exact ⟨gown_fr (gown_below OW7.out (below_new w7 _)) (Fr.grown (S := fun k => some w7.heap.size = some k) g2 fun k e => e) (fun k hk e => by have := L7.out k hk; cases e; omega), g1, L7.out, Q8.out.grown g2 Q8.out.size (fun k e => by cases e; exact Q7.out.size), Q5.out.size, by have := G7.out; simp at this; omega⟩
  have HGB := Lib.hid GB
  clear g1 g2 g3 GB hl0
  go_loopw [64] (fun i wr => ∃ k : Nat, k ≤ n ∧ i = .int .i64 k ∧ Gb W3 w5.heap.size w7.heap.size (.slice A7 n c7) (.slice A9 n c9) (baK l k) l wr) (fun i _ => n - (intOf i).toNat)
  case atStart => exact ⟨0, Nat.zero_le _, rfl, HGB.out⟩
  case round =>
    obtain ⟨k, hk, rfl, hG⟩ := hrel
    have HG := Lib.hid hG
    clear hG
    by_cases hlt : k < n
    case pos =>
      have hdk : decide ((k : Int) < n) = true := decide_eq_true (by omega)
      have hki : (k : Int) < (n : Int) := by omega
      obtain ⟨x, hx⟩ : ∃ x, l[k]? = some x := ⟨l[k]'(by have := HL.out; omega), List.getElem?_eq_getElem _⟩
      obtain ⟨b7, d7, e7⟩ := gown_slot HG.out.o7 (by rw [ba_len, HL.out]; omega)
      cases e7
      have kc := gown_at HG.out.o7 (ba_at hx) (i := 28) (by decide)
      rw [sk_os] at kc
      change wr.cell? ⟨b7, k * 29 + 28, none⟩ = _ at kc
      have kf := gown_fz HG.out.o7 (k * 29 + 28)
      have NX := Lib.hid (HG.out.bare (ba_at hx))
      rw [ba_set hx] at NX
      clear hx
      go_wp2_with fail
      go_roundw
      case rel => exact ⟨k + 1, hlt, by go_num, NX.out⟩
      case measure => simp [intOf]; omega
    case neg =>
      obtain rfl : k = n := by omega
      have EB : Hid (baK l k = l.map bareK) := Lib.hid (by rw [← HL.out]; exact ba_all l)
      rw [EB.out] at HG
      generalize wr = w9' at *
      have N1 := Lib.hid (need11 A7 k c7 (l.map bareK) w9' (gown_rd HG.out.o7) (fun z hz => by
        obtain ⟨y, hy, rfl⟩ := List.mem_map.1 hz
        exact bare_ok (HI.out w9' (Q3.out.trans (HG.out.b0.mono Q3.out.size)) y hy).1 w9') (by unfold maxLen; omega))
      rw [BN.out.1, BN.out.2, nd_cells] at N1
      dsimp only at N1
      have xx := HG.out.b0.size
      clear EB hlt hk
      go_wp2_with fail
      refine N1.out.mono ?_; rintro e w10 ⟨rfl, q10⟩
      obtain ⟨W11, hW11⟩ : ∃ W, w10.alloc (.cells #[.int .i64 m, .int .i64 0, .int .i64 u] 35) = W := ⟨_, rfl⟩
      have q11 : Below w9'.heap.size w9' W11 := q10.trans ((show Below w10.heap.size w10 W11 by rw [← hW11]; exact below_new w10 _).mono q10.size)
      have G11 := Lib.hid (HG.out.below q11)
      have n11 : EN.Bx 35 W11 w10.heap.size ⟨m, 0, u⟩ := by rw [← hW11]; exact gbx_new (E := EN) w10 ⟨m, 0, u⟩
      have a0 : W11.cell? ⟨w10.heap.size, 0, none⟩ = some (.int .i64 m) := gbx_cell n11 0
      have a1 : W11.cell? ⟨w10.heap.size, 1, none⟩ = some (.int .i64 0) := gbx_cell n11 1
      have a2 : W11.cell? ⟨w10.heap.size, 2, none⟩ = some (.int .i64 u) := gbx_cell n11 2
      have k0 : W11.cell? ⟨w2.heap.size, 0, none⟩ = some (.int .i64 m) := gbx_cell (NA.out _ G11.out.b0) 0
      have k2 : W11.cell? ⟨w2.heap.size, 2, none⟩ = some (.int .i64 u) := gbx_cell (NA.out _ G11.out.b0) 2
      have QW := Lib.hid (Q3.out.trans (G11.out.b0.mono Q3.out.size))
      have HW11 := Lib.hid hW11
      clear q10 q11 n11 hW11 xx
      by_cases cn : k = 0
      · subst cn
        go_wp2_with (rw [HW11.out])
        refine (KN.out _ QW.out).mono ?_; rintro e w12 ⟨rfl, q12⟩
        have Q12 := Lib.hid q12
        clear q12
        go_wp2_with fail
        go_ret
        exact ⟨rfl, Q12.out⟩
      have cn1 : decide (0 < (k : Int)) = true := decide_eq_true (by omega)
      have cn3 : ¬ (k : Int) = 0 := by omega
      have cn4 : ((k : Int) == 0) = false := by simp; omega
      have wn2 : IntKind.u64.wrap (k : Int) = (k : Int) := by rw [IntKind.wrap_u64]; omega
      obtain ⟨j, ej, hj⟩ : ∃ j : Nat, wrap64 ((IntKind.u64.wrap at').tmod (k : Int)) = (j : Int) ∧ j < k := by
        have u0 : 0 ≤ IntKind.u64.wrap at' := by rw [IntKind.wrap_u64]; omega
        have t0 : (IntKind.u64.wrap at').tmod (k : Int) = IntKind.u64.wrap at' % (k : Int) := Int.tmod_eq_emod_of_nonneg u0
        have m0 := Int.emod_nonneg (IntKind.u64.wrap at') (show (k : Int) ≠ 0 by omega)
        have m1 := Int.emod_lt_of_pos (IntKind.u64.wrap at') (show 0 < (k : Int) by omega)
        refine ⟨(IntKind.u64.wrap at' % (k : Int)).toNat, ?_, by omega⟩
        rw [t0]
        unfold wrap64
        omega
      have CN := Lib.hid cn
      clear cn
      go_wp2_with (rw [HW11.out])
      rw [ej]
      clear ej wn2 cn4 cn3
      obtain ⟨x, hx⟩ : ∃ x, l[j]? = some x := ⟨l[j]'(by have := HL.out; omega), List.getElem?_eq_getElem _⟩
      have HX := Lib.hid hx
      have HXI := Lib.hid (HI.out W11 QW.out x (List.mem_of_getElem? hx))
      have OX := Lib.hid (O300.out x (List.mem_of_getElem? hx))
      obtain ⟨b9, d9, e9⟩ := gown_slot G11.out.o9 (by rw [HL.out]; omega)
      rw [HL.out] at e9
      cases e9
      have L9 := Lib.hid (gown_lt G11.out.o9 (k := b9) rfl)
      have FR : Hid (∀ U, Fr (fun k => k = b9) W11 U → Below W1.heap.size W1 U) := Lib.hid fun U hU => ⟨hU.b0.os.trans QW.out.os, hU.b0.tape.trans QW.out.tape, hU.b0.output.trans QW.out.output, Nat.le_trans QW.out.size hU.b0.size, fun i hi => (hU.at' i (Nat.lt_of_lt_of_le hi QW.out.size) (fun e => by have := L9.out.1; have := G11.out.le; have := G11.out.l9; have := Q3.out.size; omega)).trans (QW.out.block i hi)⟩
      obtain ⟨bb, oo, eA, rg⟩ := grd_rng (HR.out W11 QW.out) hx
      cases eA
      have RX : Hid (∀ U, Below W1.heap.size W1 U → U.cell? ⟨bb, oo + j * 29 + 28, none⟩ = some (.slice x.A x.n x.c)) := Lib.hid fun U hU => by
        obtain ⟨b', o', e, r⟩ := grd_rng (HR.out U hU) hx
        cases e
        exact kq_at r (sk_os x)
      have xnl : x.n = x.os.length := HXI.out.2.1.symm
      have XN := Lib.hid xnl
      have jk : (j : Int) < (k : Int) := by omega
      clear hx rg a0 a1 a2 k0 k2 xnl
      refine wp_region_held_drew (S := fun U => Fr (fun k => k = b9) W11 U) (by kernel_rfl) ((Fr.refl _ _).drewN 1) (fun hF => ?_)
      have hH : Below W11.heap.size W11 W11.drew := (Below.refl _ _).drew
      clear hF
      have hF0 : Fr (fun k => k = b9) W11 W11.drew := Fr.below hH
      refine wpAnyH_take (i := 0) (v := .slice (some ⟨b9, 0, none⟩) k c9) rfl (by kernel_rfl) (by kernel_rfl) (by kernel_rfl) (fun _ _ _ h => h) (.inl ⟨by rfl, ?_⟩) (by assumption) ?_
      · intro W hW; go_simp
      try simp only [List.getElem_toArray, List.getElem_cons_zero, Act.put, List.setIfInBounds_toArray, List.set_cons_zero, List.set_cons_succ]
      refine wpAnyH_take (i := 1) (v := .int .i64 j) rfl (by kernel_rfl) (by kernel_rfl) (by kernel_rfl) (fun _ _ _ h => h) (.inl ⟨by rfl, ?_⟩) (by assumption) ?_
      · intro W hW; go_simp
      try simp only [List.getElem_toArray, List.getElem_cons_zero, List.getElem_cons_succ, Act.put, List.setIfInBounds_toArray, List.set_cons_zero, List.set_cons_succ]
      refine wpAnyH_take (i := 3) (v := .slice (some ⟨bb, oo, none⟩) k c) rfl (by kernel_rfl) (by kernel_rfl) (by kernel_rfl) (fun _ _ _ h => h) (.inl ⟨by rfl, ?_⟩) (by assumption) ?_
      · intro W hW; go_simp
      try simp only [List.getElem_toArray, List.getElem_cons_zero, List.getElem_cons_succ, Act.put, List.setIfInBounds_toArray, List.set_cons_zero, List.set_cons_succ]
      refine wpAnyH_take (i := 4) (v := .int .i64 j) rfl (by kernel_rfl) (by kernel_rfl) (by kernel_rfl) (fun _ _ _ h => h) (.inl ⟨by rfl, ?_⟩) (by assumption) ?_
      · intro W hW; go_simp
      try simp only [List.getElem_toArray, List.getElem_cons_zero, List.getElem_cons_succ, Act.put, List.setIfInBounds_toArray, List.set_cons_zero, List.set_cons_succ]
      refine wpAnyH_take (i := 5) (v := .pointer (some ⟨bb, oo + j * 29, none⟩)) rfl (by kernel_rfl) (by kernel_rfl) (by kernel_rfl) (fun _ _ _ h => h) (.inl ⟨by rfl, ?_⟩) (by assumption) ?_
      · intro W hW; go_simp
      try simp only [List.getElem_toArray, List.getElem_cons_zero, List.getElem_cons_succ, Act.put, List.setIfInBounds_toArray, List.set_cons_zero, List.set_cons_succ]
      refine wpAnyH_take (i := 6) (v := .pointer (some ⟨bb, oo + j * 29 + 28, none⟩)) rfl (by kernel_rfl) (by kernel_rfl) (by kernel_rfl) (fun _ _ _ h => h) (.inl ⟨by rfl, ?_⟩) (by assumption) ?_
      · intro W hW; go_simp
      try simp only [List.getElem_toArray, List.getElem_cons_zero, List.getElem_cons_succ, Act.put, List.setIfInBounds_toArray, List.set_cons_zero, List.set_cons_succ]
      refine wpAnyH_take (i := 7) (v := .slice x.A x.n x.c) rfl (by kernel_rfl) (by kernel_rfl) (by kernel_rfl) (fun _ _ _ h => h) (.inl ⟨by rfl, ?_⟩) (by assumption) ?_
      · intro W hW; have kk := RX.out W (FR.out W hW); go_simp
      try simp only [List.getElem_toArray, List.getElem_cons_zero, List.getElem_cons_succ, Act.put, List.setIfInBounds_toArray, List.set_cons_zero, List.set_cons_succ]
      refine wpAnyH_take (i := 9) (v := .agg (EO.cells more).toArray) rfl (by kernel_rfl) (by kernel_rfl) (by kernel_rfl) (fun _ _ _ h => h) (gyields_load TO (by rfl) (.tmp 5) rfl w.heap.size 0 rfl (fun U hU => gbx_rng (HM.out U (FR.out U hU)))) (by assumption) ?_
      try simp only [List.getElem_toArray, List.getElem_cons_zero, List.getElem_cons_succ, Act.put, List.setIfInBounds_toArray, List.set_cons_zero, List.set_cons_succ]
      refine wpAnyH_ready (rs := [2, 10]) (by decide +kernel) (by simp) (AllReadyH.cons rfl (fun KQ hK => ?_) (AllReadyH.cons rfl (fun KQ hK => ?_) (AllReadyH.nil)))
      · rw [if_pos (by rfl)]
        refine gwp_bs0' TO rfl ?_
        have o0 := o0_of11 hH
        have hH1 := hH.alloc hH.size (.cells #[] 41)
        refine hK.out _ _ (Fr.below hH1) (fun _ => ?_)
        clear hK hH
        have hH := hH1
        clear hH1
        try simp only [List.getElem_toArray, List.getElem_cons_zero, List.getElem_cons_succ, Act.put, List.setIfInBounds_toArray, List.set_cons_zero, List.set_cons_succ]
        refine wpAnyH_ready (rs := [8, 10]) (by decide +kernel) (by simp) (AllReadyH.cons rfl (fun KQ hK => ?_) (AllReadyH.cons rfl (fun KQ hK => ?_) (AllReadyH.nil)))
        · rw [if_pos (by rfl)]
          refine gwp_app TO _ _ rfl W11.heap.size (.slice (some ⟨W11.drew.heap.size, 0, none⟩) 0 0) [] rfl o0 x.A x.n x.c x.os rfl (grd_below HXI.out.2 hH (Nat.le_refl _)) HXI.out.1.h0 (by have := OX.out; have := XN.out; simp; omega) hH.size ?_
          intro v1 u2 o1 g1 _
          have hH1 := hH.grown g1 hH.size (fun j hj => (gown_lt o0 hj).1)
          refine hK.out _ _ (Fr.below hH1) (fun _ => ?_)
          clear hK hH
          have hH := hH1
          clear hH1
          try simp only [List.getElem_toArray, List.getElem_cons_zero, List.getElem_cons_succ, Act.put, List.setIfInBounds_toArray, List.set_cons_zero, List.set_cons_succ]
          refine wpAnyH_ready (rs := [10]) (by decide +kernel) (by simp) (AllReadyH.cons rfl (fun KQ hK => ?_) (AllReadyH.nil))
          rw [if_pos (by rfl)]
          refine gwp_bs TO rfl (s := more) rfl (fill_or11 _) ?_ (by decide)
          have hH1 := hH.alloc hH.size (.cells (EO.cells more).toArray 41)
          have x6 := x6_of11 hH more
          replace o1 := gown_below o1 (below_new _ (.cells (EO.cells more).toArray 41))
          refine hK.out _ _ (Fr.below hH1) (fun _ => ?_)
          clear hK hH
          have hH := hH1
          clear hH1
          try simp only [List.getElem_toArray, List.getElem_cons_zero, List.getElem_cons_succ, Act.put, List.setIfInBounds_toArray, List.set_cons_zero, List.set_cons_succ]
          refine wpAnyH_ready (rs := [11]) (by decide +kernel) (by simp) (AllReadyH.cons rfl (fun KQ hK => ?_) (AllReadyH.nil))
          rw [if_pos (by rfl)]
          refine gwp_app TO _ _ rfl W11.heap.size _ _ rfl o1 _ 1 1 [more] rfl (gbx_rd x6) (fun e => by cases e) (by have := OX.out; simp; omega) hH.size ?_
          intro v2 u3 o2 g2 _
          have hH1 := hH.grown g2 hH.size (fun j hj => (gown_lt o1 hj).1)
          rw [List.nil_append] at o2
          obtain ⟨A13, c13, rfl, h013⟩ := gown_form o2
          refine hK.out _ _ (Fr.below hH1) (fun _ => ?_)
          clear hK hH
          have hH := hH1
          clear hH1
          try simp only [List.getElem_toArray, List.getElem_cons_zero, List.getElem_cons_succ, Act.put, List.setIfInBounds_toArray, List.set_cons_zero, List.set_cons_succ]
          refine wpAnyH_take (i := 12) (v := .pointer (some ⟨b9, j * 29, none⟩)) rfl (by kernel_rfl) (by kernel_rfl) (by kernel_rfl) (fun _ _ _ h => h) (.inl ⟨by rfl, ?_⟩) (by assumption) ?_
          · intro W hW; go_simp
          try simp only [List.getElem_toArray, List.getElem_cons_zero, List.getElem_cons_succ, Act.put, List.setIfInBounds_toArray, List.set_cons_zero, List.set_cons_succ]
          refine wpAnyH_take (i := 13) (v := .pointer (some ⟨b9, j * 29 + 28, none⟩)) rfl (by kernel_rfl) (by kernel_rfl) (by kernel_rfl) (fun _ _ _ h => h) (.inl ⟨by rfl, ?_⟩) (by assumption) ?_
          · intro W hW; go_simp
          try simp only [List.getElem_toArray, List.getElem_cons_zero, List.getElem_cons_succ, Act.put, List.setIfInBounds_toArray, List.set_cons_zero, List.set_cons_succ]
          have GE := G11.out.below hH
          have kc := gown_at GE.o9 HX.out (i := 28) (by decide)
          rw [sk_os] at kc
          change u3.cell? ⟨b9, j * 29 + 28, none⟩ = _ at kc
          have kf := gown_fz GE.o9 (j * 29 + 28)
          obtain ⟨OWF, BWF⟩ := GE.wide (A := A13) (m := (x.os ++ [more]).length) (d := c13) (os := x.os ++ [more]) HX.out
          have le := own_le11 o2
          have fF := Fr.set (S := fun k => k = b9) (W := u3) (p := ⟨b9, j * 29 + 28, none⟩) rfl (.slice A13 (x.os ++ [more]).length c13)
          have oF := gown_fr o2 fF (fun q hq e => by have := (gown_lt o2 hq).1; have := L9.out.2; omega)
          have YOK : Sk.ok ⟨x.lg, x.ba, x.pr, A13, (x.os ++ [more]).length, c13, x.os ++ [more]⟩ := ⟨HXI.out.1.lg, HXI.out.1.ba, HXI.out.1.pr, (fun o ho => by rcases List.mem_append.1 ho with h | h; exact HXI.out.1.os o h; rw [List.mem_singleton.1 h]; exact OM.out), (by have := OX.out; show (x.os ++ [more]).length ≤ maxLen; rw [List.length_append]; unfold maxLen; simp; omega), le.2.2, le.2.1⟩
          have FF := (Fr.below (S := fun k => k = b9) hH).same fF
          obtain ⟨WF, hWF⟩ : ∃ W, u3.setCell ⟨b9, j * 29 + 28, none⟩ (.slice A13 (x.os ++ [more]).length c13) = W := ⟨_, rfl⟩
          rw [hWF] at OWF BWF oF FF
          have ND2 := Lib.hid (need11 (some ⟨b9, 0, none⟩) k c9 (l.set j ⟨x.lg, x.ba, x.pr, A13, (x.os ++ [more]).length, c13, x.os ++ [more]⟩) WF (gown_rd OWF) (fun z hz => by
            rcases List.mem_or_eq_of_mem_set hz with hz | rfl
            · exact HI.out WF (FR.out WF FF) z hz
            · exact ⟨YOK, gown_rd oF⟩) (by unfold maxLen; omega))
          have MR := Lib.hid (MN.out j x ⟨x.lg, x.ba, x.pr, A13, (x.os ++ [more]).length, c13, x.os ++ [more]⟩ HX.out rfl rfl rfl rfl)
          have BF := Lib.hid BWF
          have QF := Lib.hid (FR.out WF FF)
          generalize l.set j ⟨x.lg, x.ba, x.pr, A13, (x.os ++ [more]).length, c13, x.os ++ [more]⟩ = l2 at *
          obtain ⟨slen, hsl⟩ : ∃ v, (x.os ++ [more]).length = v := ⟨_, rfl⟩
          refine wpAnyH_ready (rs := [14]) (by decide +kernel) (by simp) (AllReadyH.cons rfl (fun KQ hK => ?_) AllReadyH.nil)
          rw [hsl] at hWF ⊢
          clear o2 OWF BWF oF YOK le fF GE
          go_simp
          try rw [hWF]
          refine hK.out _ _ FF (fun _ => ?_)
          clear hK kc kf hWF FF hH
          try simp only [List.getElem_toArray, List.getElem_cons_zero, List.getElem_cons_succ, Act.put, List.setIfInBounds_toArray, List.set_cons_zero, List.set_cons_succ]
          refine wpAnyH_done (by decide +kernel) ?_ _
          obtain ⟨m2, hm2⟩ : ∃ v, (neN l2).m = v := ⟨_, rfl⟩
          obtain ⟨p2, hp2⟩ : ∃ v, (neN l2).w = v := ⟨_, rfl⟩
          obtain ⟨u2', hu2⟩ : ∃ v, (neN l2).u = v := ⟨_, rfl⟩
          rw [nd_cells, hm2, hp2, hu2] at ND2
          rw [hm2, hp2, hu2] at MR
          obtain ⟨me2, hme⟩ : ∃ v, neE l2 = v := ⟨_, rfl⟩
          rw [hme] at ND2 MR
          have F7 := Lib.hid (NA.out WF BF.out)
          clear hm2 hp2 hu2 hme hsl
          go_wp2_with fail
          refine ND2.out.mono ?_; rintro e w14 ⟨rfl, q14⟩
          obtain ⟨W15, hW15⟩ : ∃ W, w14.alloc (.cells #[.int .i64 m2, .int .i64 p2, .int .i64 u2'] 35) = W := ⟨_, rfl⟩
          have n15 : EN.Bx 35 W15 w14.heap.size ⟨m2, p2, u2'⟩ := by rw [← hW15]; exact gbx_new (E := EN) w14 ⟨m2, p2, u2'⟩
          have q15 : Below WF.heap.size WF W15 := q14.trans ((show Below w14.heap.size w14 W15 by rw [← hW15]; exact below_new w14 _).mono q14.size)
          have Q15 := Lib.hid (QF.out.trans (q15.mono QF.out.size))
          have f7 := gbx_below F7.out q15
          have a0 : W15.cell? ⟨w14.heap.size, 0, none⟩ = some (.int .i64 m2) := gbx_cell n15 0
          have a1 : W15.cell? ⟨w14.heap.size, 1, none⟩ = some (.int .i64 p2) := gbx_cell n15 1
          have a2 : W15.cell? ⟨w14.heap.size, 2, none⟩ = some (.int .i64 u2') := gbx_cell n15 2
          have k0 : W15.cell? ⟨w2.heap.size, 0, none⟩ = some (.int .i64 m) := gbx_cell f7 0
          have k1 : W15.cell? ⟨w2.heap.size, 1, none⟩ = some (.int .i64 p) := gbx_cell f7 1
          have k2 : W15.cell? ⟨w2.heap.size, 2, none⟩ = some (.int .i64 u) := gbx_cell f7 2
          have HW15 := Lib.hid hW15
          clear q14 q15 n15 f7 hW15
          by_cases c14 : me2 = 0
          · obtain ⟨r1, rfl, rfl⟩ := MR.out c14
            subst c14
            have dp : decide (p2 < p) = false := decide_eq_false (by omega)
            clear MR r1
            go_wp2_with (rw [HW15.out])
            refine (KN.out _ Q15.out).mono ?_; rintro e w16 ⟨rfl, q16⟩
            have Q16 := Lib.hid q16
            clear q16
            go_wp2_with fail
            go_ret
            exact ⟨rfl, Q16.out⟩
          · have de : (me2 == 0) = false := by simp [c14]
            clear MR
            go_wp2_with (rw [HW15.out])
            refine (KN.out _ Q15.out).mono ?_; rintro e w16 ⟨rfl, q16⟩
            have Q16 := Lib.hid q16
            clear q16
            go_wp2_with fail
            go_ret
            exact ⟨rfl, Q16.out⟩
        · rw [if_pos (by rfl)]
          refine gwp_bs TO rfl (s := more) rfl (fill_or11 _) ?_ (by decide)
          have hH1 := hH.alloc hH.size (.cells (EO.cells more).toArray 41)
          have x6 := x6_of11 hH more
          replace o0 := gown_below o0 (below_new _ (.cells (EO.cells more).toArray 41))
          refine hK.out _ _ (Fr.below hH1) (fun _ => ?_)
          clear hK hH
          have hH := hH1
          clear hH1
          try simp only [List.getElem_toArray, List.getElem_cons_zero, List.getElem_cons_succ, Act.put, List.setIfInBounds_toArray, List.set_cons_zero, List.set_cons_succ]
          refine wpAnyH_ready (rs := [8]) (by decide +kernel) (by simp) (AllReadyH.cons rfl (fun KQ hK => ?_) (AllReadyH.nil))
          rw [if_pos (by rfl)]
          refine gwp_app TO _ _ rfl W11.heap.size (.slice (some ⟨W11.drew.heap.size, 0, none⟩) 0 0) [] rfl o0 x.A x.n x.c x.os rfl (grd_below HXI.out.2 hH (Nat.le_refl _)) HXI.out.1.h0 (by have := OX.out; have := XN.out; simp; omega) hH.size ?_
          intro v1 u2 o1 g1 _
          have hH1 := hH.grown g1 hH.size (fun j hj => (gown_lt o0 hj).1)
          replace x6 : EO.Bx 41 u2 _ more := (g1.block _ (Array.getElem?_eq_some_iff.1 x6).1 (fun e => by simp [Value.ownBlock] at e)).trans x6
          refine hK.out _ _ (Fr.below hH1) (fun _ => ?_)
          clear hK hH
          have hH := hH1
          clear hH1
          try simp only [List.getElem_toArray, List.getElem_cons_zero, List.getElem_cons_succ, Act.put, List.setIfInBounds_toArray, List.set_cons_zero, List.set_cons_succ]
          refine wpAnyH_ready (rs := [11]) (by decide +kernel) (by simp) (AllReadyH.cons rfl (fun KQ hK => ?_) (AllReadyH.nil))
          rw [if_pos (by rfl)]
          refine gwp_app TO _ _ rfl W11.heap.size _ _ rfl o1 _ 1 1 [more] rfl (gbx_rd x6) (fun e => by cases e) (by have := OX.out; simp; omega) hH.size ?_
          intro v2 u3 o2 g2 _
          have hH1 := hH.grown g2 hH.size (fun j hj => (gown_lt o1 hj).1)
          rw [List.nil_append] at o2
          obtain ⟨A13, c13, rfl, h013⟩ := gown_form o2
          refine hK.out _ _ (Fr.below hH1) (fun _ => ?_)
          clear hK hH
          have hH := hH1
          clear hH1
          try simp only [List.getElem_toArray, List.getElem_cons_zero, List.getElem_cons_succ, Act.put, List.setIfInBounds_toArray, List.set_cons_zero, List.set_cons_succ]
          refine wpAnyH_take (i := 12) (v := .pointer (some ⟨b9, j * 29, none⟩)) rfl (by kernel_rfl) (by kernel_rfl) (by kernel_rfl) (fun _ _ _ h => h) (.inl ⟨by rfl, ?_⟩) (by assumption) ?_
          · intro W hW; go_simp
          try simp only [List.getElem_toArray, List.getElem_cons_zero, List.getElem_cons_succ, Act.put, List.setIfInBounds_toArray, List.set_cons_zero, List.set_cons_succ]
          refine wpAnyH_take (i := 13) (v := .pointer (some ⟨b9, j * 29 + 28, none⟩)) rfl (by kernel_rfl) (by kernel_rfl) (by kernel_rfl) (fun _ _ _ h => h) (.inl ⟨by rfl, ?_⟩) (by assumption) ?_
          · intro W hW; go_simp
          try simp only [List.getElem_toArray, List.getElem_cons_zero, List.getElem_cons_succ, Act.put, List.setIfInBounds_toArray, List.set_cons_zero, List.set_cons_succ]
          have GE := G11.out.below hH
          have kc := gown_at GE.o9 HX.out (i := 28) (by decide)
          rw [sk_os] at kc
          change u3.cell? ⟨b9, j * 29 + 28, none⟩ = _ at kc
          have kf := gown_fz GE.o9 (j * 29 + 28)
          obtain ⟨OWF, BWF⟩ := GE.wide (A := A13) (m := (x.os ++ [more]).length) (d := c13) (os := x.os ++ [more]) HX.out
          have le := own_le11 o2
          have fF := Fr.set (S := fun k => k = b9) (W := u3) (p := ⟨b9, j * 29 + 28, none⟩) rfl (.slice A13 (x.os ++ [more]).length c13)
          have oF := gown_fr o2 fF (fun q hq e => by have := (gown_lt o2 hq).1; have := L9.out.2; omega)
          have YOK : Sk.ok ⟨x.lg, x.ba, x.pr, A13, (x.os ++ [more]).length, c13, x.os ++ [more]⟩ := ⟨HXI.out.1.lg, HXI.out.1.ba, HXI.out.1.pr, (fun o ho => by rcases List.mem_append.1 ho with h | h; exact HXI.out.1.os o h; rw [List.mem_singleton.1 h]; exact OM.out), (by have := OX.out; show (x.os ++ [more]).length ≤ maxLen; rw [List.length_append]; unfold maxLen; simp; omega), le.2.2, le.2.1⟩
          have FF := (Fr.below (S := fun k => k = b9) hH).same fF
          obtain ⟨WF, hWF⟩ : ∃ W, u3.setCell ⟨b9, j * 29 + 28, none⟩ (.slice A13 (x.os ++ [more]).length c13) = W := ⟨_, rfl⟩
          rw [hWF] at OWF BWF oF FF
          have ND2 := Lib.hid (need11 (some ⟨b9, 0, none⟩) k c9 (l.set j ⟨x.lg, x.ba, x.pr, A13, (x.os ++ [more]).length, c13, x.os ++ [more]⟩) WF (gown_rd OWF) (fun z hz => by
            rcases List.mem_or_eq_of_mem_set hz with hz | rfl
            · exact HI.out WF (FR.out WF FF) z hz
            · exact ⟨YOK, gown_rd oF⟩) (by unfold maxLen; omega))
          have MR := Lib.hid (MN.out j x ⟨x.lg, x.ba, x.pr, A13, (x.os ++ [more]).length, c13, x.os ++ [more]⟩ HX.out rfl rfl rfl rfl)
          have BF := Lib.hid BWF
          have QF := Lib.hid (FR.out WF FF)
          generalize l.set j ⟨x.lg, x.ba, x.pr, A13, (x.os ++ [more]).length, c13, x.os ++ [more]⟩ = l2 at *
          obtain ⟨slen, hsl⟩ : ∃ v, (x.os ++ [more]).length = v := ⟨_, rfl⟩
          refine wpAnyH_ready (rs := [14]) (by decide +kernel) (by simp) (AllReadyH.cons rfl (fun KQ hK => ?_) AllReadyH.nil)
          rw [hsl] at hWF ⊢
          clear o2 OWF BWF oF YOK le fF GE
          go_simp
          try rw [hWF]
          refine hK.out _ _ FF (fun _ => ?_)
          clear hK kc kf hWF FF hH
          try simp only [List.getElem_toArray, List.getElem_cons_zero, List.getElem_cons_succ, Act.put, List.setIfInBounds_toArray, List.set_cons_zero, List.set_cons_succ]
          refine wpAnyH_done (by decide +kernel) ?_ _
          obtain ⟨m2, hm2⟩ : ∃ v, (neN l2).m = v := ⟨_, rfl⟩
          obtain ⟨p2, hp2⟩ : ∃ v, (neN l2).w = v := ⟨_, rfl⟩
          obtain ⟨u2', hu2⟩ : ∃ v, (neN l2).u = v := ⟨_, rfl⟩
          rw [nd_cells, hm2, hp2, hu2] at ND2
          rw [hm2, hp2, hu2] at MR
          obtain ⟨me2, hme⟩ : ∃ v, neE l2 = v := ⟨_, rfl⟩
          rw [hme] at ND2 MR
          have F7 := Lib.hid (NA.out WF BF.out)
          clear hm2 hp2 hu2 hme hsl
          go_wp2_with fail
          refine ND2.out.mono ?_; rintro e w14 ⟨rfl, q14⟩
          obtain ⟨W15, hW15⟩ : ∃ W, w14.alloc (.cells #[.int .i64 m2, .int .i64 p2, .int .i64 u2'] 35) = W := ⟨_, rfl⟩
          have n15 : EN.Bx 35 W15 w14.heap.size ⟨m2, p2, u2'⟩ := by rw [← hW15]; exact gbx_new (E := EN) w14 ⟨m2, p2, u2'⟩
          have q15 : Below WF.heap.size WF W15 := q14.trans ((show Below w14.heap.size w14 W15 by rw [← hW15]; exact below_new w14 _).mono q14.size)
          have Q15 := Lib.hid (QF.out.trans (q15.mono QF.out.size))
          have f7 := gbx_below F7.out q15
          have a0 : W15.cell? ⟨w14.heap.size, 0, none⟩ = some (.int .i64 m2) := gbx_cell n15 0
          have a1 : W15.cell? ⟨w14.heap.size, 1, none⟩ = some (.int .i64 p2) := gbx_cell n15 1
          have a2 : W15.cell? ⟨w14.heap.size, 2, none⟩ = some (.int .i64 u2') := gbx_cell n15 2
          have k0 : W15.cell? ⟨w2.heap.size, 0, none⟩ = some (.int .i64 m) := gbx_cell f7 0
          have k1 : W15.cell? ⟨w2.heap.size, 1, none⟩ = some (.int .i64 p) := gbx_cell f7 1
          have k2 : W15.cell? ⟨w2.heap.size, 2, none⟩ = some (.int .i64 u) := gbx_cell f7 2
          have HW15 := Lib.hid hW15
          clear q14 q15 n15 f7 hW15
          by_cases c14 : me2 = 0
          · obtain ⟨r1, rfl, rfl⟩ := MR.out c14
            subst c14
            have dp : decide (p2 < p) = false := decide_eq_false (by omega)
            clear MR r1
            go_wp2_with (rw [HW15.out])
            refine (KN.out _ Q15.out).mono ?_; rintro e w16 ⟨rfl, q16⟩
            have Q16 := Lib.hid q16
            clear q16
            go_wp2_with fail
            go_ret
            exact ⟨rfl, Q16.out⟩
          · have de : (me2 == 0) = false := by simp [c14]
            clear MR
            go_wp2_with (rw [HW15.out])
            refine (KN.out _ Q15.out).mono ?_; rintro e w16 ⟨rfl, q16⟩
            have Q16 := Lib.hid q16
            clear q16
            go_wp2_with fail
            go_ret
            exact ⟨rfl, Q16.out⟩
      · rw [if_pos (by rfl)]
        refine gwp_bs TO rfl (s := more) rfl (fill_or11 _) ?_ (by decide)
        have hH1 := hH.alloc hH.size (.cells (EO.cells more).toArray 41)
        have x6 := x6_of11 hH more
        refine hK.out _ _ (Fr.below hH1) (fun _ => ?_)
        clear hK hH
        have hH := hH1
        clear hH1
        try simp only [List.getElem_toArray, List.getElem_cons_zero, List.getElem_cons_succ, Act.put, List.setIfInBounds_toArray, List.set_cons_zero, List.set_cons_succ]
        refine wpAnyH_ready (rs := [2]) (by decide +kernel) (by simp) (AllReadyH.cons rfl (fun KQ hK => ?_) (AllReadyH.nil))
        rw [if_pos (by rfl)]
        refine gwp_bs0' TO rfl ?_
        have o0 := o0_of11 hH
        have hH1 := hH.alloc hH.size (.cells #[] 41)
        replace x6 := gbx_below x6 (below_new _ (.cells #[] 41))
        refine hK.out _ _ (Fr.below hH1) (fun _ => ?_)
        clear hK hH
        have hH := hH1
        clear hH1
        try simp only [List.getElem_toArray, List.getElem_cons_zero, List.getElem_cons_succ, Act.put, List.setIfInBounds_toArray, List.set_cons_zero, List.set_cons_succ]
        refine wpAnyH_ready (rs := [8]) (by decide +kernel) (by simp) (AllReadyH.cons rfl (fun KQ hK => ?_) (AllReadyH.nil))
        rw [if_pos (by rfl)]
        refine gwp_app TO _ _ rfl W11.heap.size (.slice (some ⟨(W11.drew.alloc (.cells (EO.cells more).toArray 41)).heap.size, 0, none⟩) 0 0) [] rfl o0 x.A x.n x.c x.os rfl (grd_below HXI.out.2 hH (Nat.le_refl _)) HXI.out.1.h0 (by have := OX.out; have := XN.out; simp; omega) hH.size ?_
        intro v1 u2 o1 g1 _
        have hH1 := hH.grown g1 hH.size (fun j hj => (gown_lt o0 hj).1)
        replace x6 : EO.Bx 41 u2 _ more := (g1.block _ (Array.getElem?_eq_some_iff.1 x6).1 (fun e => by simp [Value.ownBlock] at e)).trans x6
        refine hK.out _ _ (Fr.below hH1) (fun _ => ?_)
        clear hK hH
        have hH := hH1
        clear hH1
        try simp only [List.getElem_toArray, List.getElem_cons_zero, List.getElem_cons_succ, Act.put, List.setIfInBounds_toArray, List.set_cons_zero, List.set_cons_succ]
        refine wpAnyH_ready (rs := [11]) (by decide +kernel) (by simp) (AllReadyH.cons rfl (fun KQ hK => ?_) (AllReadyH.nil))
        rw [if_pos (by rfl)]
        refine gwp_app TO _ _ rfl W11.heap.size _ _ rfl o1 _ 1 1 [more] rfl (gbx_rd x6) (fun e => by cases e) (by have := OX.out; simp; omega) hH.size ?_
        intro v2 u3 o2 g2 _
        have hH1 := hH.grown g2 hH.size (fun j hj => (gown_lt o1 hj).1)
        rw [List.nil_append] at o2
        obtain ⟨A13, c13, rfl, h013⟩ := gown_form o2
        refine hK.out _ _ (Fr.below hH1) (fun _ => ?_)
        clear hK hH
        have hH := hH1
        clear hH1
        try simp only [List.getElem_toArray, List.getElem_cons_zero, List.getElem_cons_succ, Act.put, List.setIfInBounds_toArray, List.set_cons_zero, List.set_cons_succ]
        refine wpAnyH_take (i := 12) (v := .pointer (some ⟨b9, j * 29, none⟩)) rfl (by kernel_rfl) (by kernel_rfl) (by kernel_rfl) (fun _ _ _ h => h) (.inl ⟨by rfl, ?_⟩) (by assumption) ?_
        · intro W hW; go_simp
        try simp only [List.getElem_toArray, List.getElem_cons_zero, List.getElem_cons_succ, Act.put, List.setIfInBounds_toArray, List.set_cons_zero, List.set_cons_succ]
        refine wpAnyH_take (i := 13) (v := .pointer (some ⟨b9, j * 29 + 28, none⟩)) rfl (by kernel_rfl) (by kernel_rfl) (by kernel_rfl) (fun _ _ _ h => h) (.inl ⟨by rfl, ?_⟩) (by assumption) ?_
        · intro W hW; go_simp
        try simp only [List.getElem_toArray, List.getElem_cons_zero, List.getElem_cons_succ, Act.put, List.setIfInBounds_toArray, List.set_cons_zero, List.set_cons_succ]
        have GE := G11.out.below hH
        have kc := gown_at GE.o9 HX.out (i := 28) (by decide)
        rw [sk_os] at kc
        change u3.cell? ⟨b9, j * 29 + 28, none⟩ = _ at kc
        have kf := gown_fz GE.o9 (j * 29 + 28)
        obtain ⟨OWF, BWF⟩ := GE.wide (A := A13) (m := (x.os ++ [more]).length) (d := c13) (os := x.os ++ [more]) HX.out
        have le := own_le11 o2
        have fF := Fr.set (S := fun k => k = b9) (W := u3) (p := ⟨b9, j * 29 + 28, none⟩) rfl (.slice A13 (x.os ++ [more]).length c13)
        have oF := gown_fr o2 fF (fun q hq e => by have := (gown_lt o2 hq).1; have := L9.out.2; omega)
        have YOK : Sk.ok ⟨x.lg, x.ba, x.pr, A13, (x.os ++ [more]).length, c13, x.os ++ [more]⟩ := ⟨HXI.out.1.lg, HXI.out.1.ba, HXI.out.1.pr, (fun o ho => by rcases List.mem_append.1 ho with h | h; exact HXI.out.1.os o h; rw [List.mem_singleton.1 h]; exact OM.out), (by have := OX.out; show (x.os ++ [more]).length ≤ maxLen; rw [List.length_append]; unfold maxLen; simp; omega), le.2.2, le.2.1⟩
        have FF := (Fr.below (S := fun k => k = b9) hH).same fF
        obtain ⟨WF, hWF⟩ : ∃ W, u3.setCell ⟨b9, j * 29 + 28, none⟩ (.slice A13 (x.os ++ [more]).length c13) = W := ⟨_, rfl⟩
        rw [hWF] at OWF BWF oF FF
        have ND2 := Lib.hid (need11 (some ⟨b9, 0, none⟩) k c9 (l.set j ⟨x.lg, x.ba, x.pr, A13, (x.os ++ [more]).length, c13, x.os ++ [more]⟩) WF (gown_rd OWF) (fun z hz => by
          rcases List.mem_or_eq_of_mem_set hz with hz | rfl
          · exact HI.out WF (FR.out WF FF) z hz
          · exact ⟨YOK, gown_rd oF⟩) (by unfold maxLen; omega))
        have MR := Lib.hid (MN.out j x ⟨x.lg, x.ba, x.pr, A13, (x.os ++ [more]).length, c13, x.os ++ [more]⟩ HX.out rfl rfl rfl rfl)
        have BF := Lib.hid BWF
        have QF := Lib.hid (FR.out WF FF)
        generalize l.set j ⟨x.lg, x.ba, x.pr, A13, (x.os ++ [more]).length, c13, x.os ++ [more]⟩ = l2 at *
        obtain ⟨slen, hsl⟩ : ∃ v, (x.os ++ [more]).length = v := ⟨_, rfl⟩
        refine wpAnyH_ready (rs := [14]) (by decide +kernel) (by simp) (AllReadyH.cons rfl (fun KQ hK => ?_) AllReadyH.nil)
        rw [hsl] at hWF ⊢
        clear o2 OWF BWF oF YOK le fF GE
        go_simp
        try rw [hWF]
        refine hK.out _ _ FF (fun _ => ?_)
        clear hK kc kf hWF FF hH
        try simp only [List.getElem_toArray, List.getElem_cons_zero, List.getElem_cons_succ, Act.put, List.setIfInBounds_toArray, List.set_cons_zero, List.set_cons_succ]
        refine wpAnyH_done (by decide +kernel) ?_ _
        obtain ⟨m2, hm2⟩ : ∃ v, (neN l2).m = v := ⟨_, rfl⟩
        obtain ⟨p2, hp2⟩ : ∃ v, (neN l2).w = v := ⟨_, rfl⟩
        obtain ⟨u2', hu2⟩ : ∃ v, (neN l2).u = v := ⟨_, rfl⟩
        rw [nd_cells, hm2, hp2, hu2] at ND2
        rw [hm2, hp2, hu2] at MR
        obtain ⟨me2, hme⟩ : ∃ v, neE l2 = v := ⟨_, rfl⟩
        rw [hme] at ND2 MR
        have F7 := Lib.hid (NA.out WF BF.out)
        clear hm2 hp2 hu2 hme hsl
        go_wp2_with fail
        refine ND2.out.mono ?_; rintro e w14 ⟨rfl, q14⟩
        obtain ⟨W15, hW15⟩ : ∃ W, w14.alloc (.cells #[.int .i64 m2, .int .i64 p2, .int .i64 u2'] 35) = W := ⟨_, rfl⟩
        have n15 : EN.Bx 35 W15 w14.heap.size ⟨m2, p2, u2'⟩ := by rw [← hW15]; exact gbx_new (E := EN) w14 ⟨m2, p2, u2'⟩
        have q15 : Below WF.heap.size WF W15 := q14.trans ((show Below w14.heap.size w14 W15 by rw [← hW15]; exact below_new w14 _).mono q14.size)
        have Q15 := Lib.hid (QF.out.trans (q15.mono QF.out.size))
        have f7 := gbx_below F7.out q15
        have a0 : W15.cell? ⟨w14.heap.size, 0, none⟩ = some (.int .i64 m2) := gbx_cell n15 0
        have a1 : W15.cell? ⟨w14.heap.size, 1, none⟩ = some (.int .i64 p2) := gbx_cell n15 1
        have a2 : W15.cell? ⟨w14.heap.size, 2, none⟩ = some (.int .i64 u2') := gbx_cell n15 2
        have k0 : W15.cell? ⟨w2.heap.size, 0, none⟩ = some (.int .i64 m) := gbx_cell f7 0
        have k1 : W15.cell? ⟨w2.heap.size, 1, none⟩ = some (.int .i64 p) := gbx_cell f7 1
        have k2 : W15.cell? ⟨w2.heap.size, 2, none⟩ = some (.int .i64 u) := gbx_cell f7 2
        have HW15 := Lib.hid hW15
        clear q14 q15 n15 f7 hW15
        by_cases c14 : me2 = 0
        · obtain ⟨r1, rfl, rfl⟩ := MR.out c14
          subst c14
          have dp : decide (p2 < p) = false := decide_eq_false (by omega)
          clear MR r1
          go_wp2_with (rw [HW15.out])
          refine (KN.out _ Q15.out).mono ?_; rintro e w16 ⟨rfl, q16⟩
          have Q16 := Lib.hid q16
          clear q16
          go_wp2_with fail
          go_ret
          exact ⟨rfl, Q16.out⟩
        · have de : (me2 == 0) = false := by simp [c14]
          clear MR
          go_wp2_with (rw [HW15.out])
          refine (KN.out _ Q15.out).mono ?_; rintro e w16 ⟨rfl, q16⟩
          have Q16 := Lib.hid q16
          clear q16
          go_wp2_with fail
          go_ret
          exact ⟨rfl, Q16.out⟩
end Go.Proofs.Ytcpcnjiphiokjaa
