/- The walk of the statement BookTrades, given the program's book. -/
import Derived.Test.YtdcjgcjnfcahkaaHYk
import Derived.Test.YtdcjgcjnfcahkaaG24
import Derived.Test.YtdcjgcjnfcahkaaHYe
namespace Go.Proofs.Ytdcjgcjnfcahkaa
open Go.RowKit Go.Shelf
set_option linter.unusedVariables false
set_option linter.unusedSimpArgs false

set_option maxRecDepth 100000 in
set_option maxHeartbeats 2000000 in
theorem trades7_out {Pb : PbT} (K : BookK Pb) (A : Option Addr) (n c : Nat) (o : Or) (kd : Int) (w : World) (hn : 100 < n) (hm : n ≤ 9223372036854775807) :
    Calls Try.prog 6 #[.slice A n c, .agg (EO.cells o).toArray, .int .u8 kd] w fun e w' => e = .returned (.bool true) ∧ Below w.heap.size w w' := by
  have KN := Lib.hid (fun W => known7_any K W)
  have NW := Lib.hid (fun W => K.new W)
  have hd : decide (100 < (n : Int)) = true := decide_eq_true (by omega)
  clear K
  obtain ⟨W0, hW0⟩ : ∃ W0, w.alloc (.cells (EO.cells o).toArray 31) = W0 := ⟨_, rfl⟩
  have b0 : Below w.heap.size w W0 := hW0 ▸ below_new w _
  have HW0 := Lib.hid hW0
  have B0 := Lib.hid b0
  clear hW0 b0
  go_enter Try.func6, Try.ntmps6
  go_wp2_with fail
  rw [HW0.out]
  refine (NW.out W0).mono ?_; rintro e w1 ⟨G, F, rfl, hp, q1, hF⟩
  have Q1 := Lib.hid (B0.out.trans (q1.mono B0.out.size))
  clear q1 hp hF
  go_wp2_with fail
  refine (KN.out _).mono ?_; rintro e w2 ⟨rfl, q⟩
  have Q := Lib.hid (Q1.out.trans (q.mono Q1.out.size))
  clear q
  go_wp2_with fail
  go_ret
  exact ⟨rfl, Q.out⟩
theorem zero_td (w : World) : (zeroValue 63).run Try.prog w = .ok (.agg (ET.cells zeroTd).toArray) w := by kernel_rfl
theorem put_td {W1 W2 : World} (x : Td) (q : Below W1.heap.size W1 W2) : ∃ W3, (W2.alloc (.cells (ET.cells zeroTd).toArray 63)).setRow W2.heap.size (ET.cells x).toArray = W3 ∧ Below W1.heap.size W1 W3 ∧ ET.Bx 63 W3 W2.heap.size x ∧ ET.Bx 63 (W2.alloc (.cells (ET.cells zeroTd).toArray 63)) W2.heap.size zeroTd ∧ W2.heap.size < W3.heap.size := by
  have b := below_row0 (cs := (ET.cells x).toArray) (below_new W2 (.cells (ET.cells zeroTd).toArray 63)) (Nat.le_refl _)
  have y := gbx_set (x := x) (gbx_new (E := ET) (te := 63) W2 zeroTd)
  exact ⟨_, rfl, q.trans (b.mono q.size), y, gbx_new W2 zeroTd, (Array.getElem?_eq_some_iff.1 y).1⟩
theorem On.ors {Pb : PbT} {w W : World} {X : Xs} {G : Nat} {S : Sd} {t : Nat} (K : BookK Pb) (h : On Pb w X W G S t) :
    Calls Try.prog 17 #[.pointer (some ⟨G, 0, none⟩)] W fun e w' => ∃ v, e = .returned v ∧ EO.Own 31 w' W.heap.size v S.all ∧ Below W.heap.size W w' := by
  obtain ⟨A, h⟩ := h
  exact orders7_any K h.pb
set_option maxRecDepth 100000 in
set_option maxHeartbeats 8000000 in
theorem trades7_in {Pb : PbT} (K : BookK Pb) (A : Option Addr) (n c : Nat) (l : List Op7) (o : Or) (kd : Int) (w : World) (hr : EOp.Rd w A n l) (hok : ∀ x, x ∈ l → x.ok) (hn : n ≤ 100) (ok : o.ok) :
    Calls Try.prog 6 #[.slice A n c, .agg (EO.cells o).toArray, .int .u8 kd] w fun e w' => e = .returned (.bool true) ∧ Below w.heap.size w w' := by
  have KN := Lib.hid (fun W => known7_any K W)
  have NW := Lib.hid (fun W => K.new W)
  have KH := Lib.hid K
  have hd100 : decide (100 < (n : Int)) = false := decide_eq_false (by omega)
  have HR := Lib.hid hr
  have HOK := Lib.hid hok
  have OK := Lib.hid ok
  have hpx := zero_px
  have hztd := zero_td
  obtain ⟨W0, hW0⟩ : ∃ W0, w.alloc (.cells (EO.cells o).toArray 31) = W0 := ⟨_, rfl⟩
  have b0 : Below w.heap.size w W0 := hW0 ▸ below_new w _
  have x0 : EO.Bx 31 W0 w.heap.size o := hW0 ▸ gbx_new w o
  have HW0 := Lib.hid hW0
  have B0 := Lib.hid b0
  have X0 := Lib.hid x0
  clear K hr hok ok hW0 b0 x0
  go_enter Try.func6, Try.ntmps6
  go_wp2_with fail
  rw [HW0.out]
  refine (NW.out W0).mono ?_; rintro e w1 ⟨G, F, rfl, hp, q1, hF⟩
  have C0 : Hid (On Pb w [orB w.heap.size o] w1 G (fun _ => []) 0) := Lib.hid (on_new KH.out B0.out (one_in X0.out) hp q1 hF)
  clear q1 hp hF NW
  go_wp2_with fail
  go_loopw [39] (fun i wr => ∃ (k : Nat) (S : Sd) (t : Nat), k ≤ n ∧ i = .int .i64 k ∧ On Pb w [orB w.heap.size o] wr G S t ∧ t ≤ k) (fun i _ => n - (intOf i).toNat)
  case atStart => exact ⟨0, _, 0, Nat.zero_le _, rfl, C0.out, Nat.le_refl _⟩
  case round =>
    obtain ⟨k, S, t, hk, rfl, hc, ht⟩ := hrel
    have CC := Lib.hid hc
    clear hc C0
    by_cases hlt : k < n
    case pos =>
      have hd : decide ((k : Int) < n) = true := decide_eq_true (by omega)
      have hki : (k : Int) < (n : Int) := by omega
      obtain ⟨x, hx⟩ : ∃ x, l[k]? = some x := ⟨l[k]'(by have := HR.out.1; omega), List.getElem?_eq_getElem _⟩
      obtain ⟨b, o', rfl, hrg⟩ := grd_rng HR.out hx
      have OKX := Lib.hid (HOK.out x (List.mem_of_getElem? hx))
      have RG : Hid (wr.rangeAt b (o' + k * 7) (EOp.cells x)) := Lib.hid (rng_below hrg CC.out.bl (Nat.le_refl _))
      clear hx hrg
      go_wp2_with ((with_reducible refine gwl_load TOp b (o' + k * 7) RG.out ?_ ?_ ?_); rfl; rfl)
      refine (CC.out.play KH.out OKX.out (by omega)).mono ?_; rintro e w2 ⟨⟨v, rfl⟩, c2⟩
      have C2 := Lib.hid c2
      clear c2
      go_wp2_with fail
      go_roundw
      case rel => exact ⟨k + 1, _, t + 1, hlt, by go_num, C2.out, by omega⟩
      case measure => simp [intOf]; omega
    case neg =>
      obtain rfl : k = n := by omega
      have hd : decide ((k : Int) < k) = false := decide_eq_false (by omega)
      have IV := Lib.hid (CC.out.inv KH.out)
      have OA := Lib.hid (CC.out.ors KH.out)
      go_wp2_with fail
      refine OA.out.mono ?_; rintro e V5 ⟨u5, rfl, ho5, q5⟩
      obtain ⟨a5, n5, c5, rfl⟩ := gown_any ho5
      obtain ⟨R5, r51, r52, r53⟩ := row_xs ho5
      have T5 : Hid (On Pb w (R5 ++ [orB w.heap.size o]) V5 G S t) := Lib.hid (CC.out.push KH.out q5 r51 (fun x hx => (gown_lt ho5 (r52 x hx)).1))
      have RG5 := Lib.hid (gbx_rng (Xs.or (b := w.heap.size) (o := o) T5.out.xs (by simp)))
      clear CC OA q5 r52
      go_wp2_with ((with_reducible refine gwl_load TO w.heap.size 0 RG5.out ?_ ?_ ?_); rfl; rfl)
      refine (T5.out.p KH.out (fun A h => KH.out.place (k := kd) h OK.out (by omega))).mono ?_; rintro e w3 ⟨p, rfl, ⟨p1, p2⟩, p3, R3, p4, t3⟩
      obtain ⟨V3, hV, bV, yV, zV, sV⟩ := put_px p (Below.refl w3.heap.size w3)
      have HV3 := Lib.hid hV
      have ZV3 := Lib.hid zV
      obtain ⟨X4, hX4⟩ : ∃ X4 : Xs, [pxB w3.heap.size p] ++ (R3 ++ (R5 ++ [orB w.heap.size o])) = X4 := ⟨_, rfl⟩
      have T3 : Hid (On Pb w X4 V3 G (placeS S o kd) (t + 1)) := Lib.hid (hX4 ▸ t3.push KH.out bV (one_in yV) (fun x hx => by rw [List.mem_singleton.1 hx]; exact Nat.le_refl _))
      have XO : Hid (orB w.heap.size o ∈ X4) := Lib.hid (hX4 ▸ by simp)
      have XP : Hid (pxB w3.heap.size p ∈ X4) := Lib.hid (hX4 ▸ by simp)
      have PI : Hid (∀ U, X4.in U → p.Is U V5.heap.size (placeP S o kd).td (placeP S o kd).gn) := Lib.hid fun U hU => (p3.below bV).at (X := X4) (fun k hk => by obtain ⟨y, hy⟩ := p4 k hk; exact ⟨y, hX4 ▸ by simp [hy]⟩) T3.out.xs hU
      have WA : Hid (∀ U, X4.in U → EO.Own 31 U wr.heap.size (.slice a5 n5 c5) S.all) := Lib.hid fun U hU => gown_same ho5 fun k hk => Xs.same (X := R5) r51 (fun x hx => hU x (hX4 ▸ by simp [hx])) (r53 k hk)
      have P1 := Lib.hid p1
      have P2 := Lib.hid p2
      clear t3 hV bV yV zV sV T5 p1 p2 p3 p4 ho5 r51 r53 hX4
      go_wp2_with ((with_reducible refine wl_store_px p w3.heap.size ZV3.out ?_ ?_ ?_); rfl; rfl; rw [HV3.out])
      have OB := Lib.hid (T3.out.ors KH.out)
      refine OB.out.mono ?_; rintro e V7 ⟨u7, rfl, ho7, q7⟩
      obtain ⟨a7, n7, c7, rfl⟩ := gown_any ho7
      have T7 := Lib.hid (T3.out.below KH.out q7)
      have IV2 := Lib.hid (T7.out.inv KH.out)
      have NO := Lib.hid ho7
      have W7 := Lib.hid (WA.out V7 T7.out.xs)
      have P7 := Lib.hid (PI.out V7 T7.out.xs)
      have O7 := Lib.hid (Xs.or T7.out.xs XO.out)
      have X7 := Lib.hid (Xs.px T7.out.xs XP.out)
      have BE : Hid (∀ U, Below V7.heap.size V7 U → Below w.heap.size w U) := Lib.hid fun U hU => T7.out.bl.trans (hU.mono T7.out.bl.size)
      have B7 := Lib.hid (Below.refl V7.heap.size V7)
      have KNF : Hid (∀ W, Below w.heap.size w W → Calls Try.prog 12 #[] W fun e w' => e = .returned (.bool true) ∧ Below w.heap.size w w') := Lib.hid fun W q => (KN.out W).mono fun e w' ⟨e1, q2⟩ => ⟨e1, q.trans (q2.mono q.size)⟩
      have LA := Lib.hid (all_le IV.out.inv)
      have LB := Lib.hid (all_le IV2.out.inv)
      have AN := Lib.hid (fun h => pa_no (S := S) (o := o) (k := kd) h)
      have AY := Lib.hid (fun h => fair_of (S := S) (o := o) (k := kd) IV.out h)
      have TDL := Lib.hid (td_ok (S := S) (o := o) (k := kd) IV.out).2
      clear OB T3 q7 ho7 T7 XO XP PI WA KN
      by_cases h0 : placeA S o kd = 0
      case neg =>
        have e0 : (placeA S o kd == 0) = false := beq_eq_false_iff_ne.2 h0
        obtain ⟨s1, s2⟩ := AN.out h0
        rw [s1] at NO
        rw [s2] at P1 P2 P7
        have R5 : Hid (EO.Rd V7 a5 n5 S.all) := Lib.hid (gown_rd W7.out)
        have R7 : Hid (EO.Rd V7 a7 n7 S.all) := Lib.hid (gown_rd NO.out)
        have hn57 : n7 = n5 := R7.out.1.symm.trans R5.out.1
        subst hn57
        have LN : Hid (n7 ≤ 200) := Lib.hid (by have h1 := R7.out.1; have h2 := LA.out.2; omega)
        have hpt : p.tn = 0 := P7.out.tl
        have hpn : p.nn = 0 := P7.out.nl
        have hpf : p.fi = 0 := P1.out
        have hpl : p.lf = 0 := P2.out
        have c0 : V7.cell? ⟨w3.heap.size, 0, none⟩ = some (.slice p.ta p.tn p.tc) := gbx_cell X7.out 0
        have c1 : V7.cell? ⟨w3.heap.size, 1, none⟩ = some (.slice p.na p.nn p.nc) := gbx_cell X7.out 1
        have c2 : V7.cell? ⟨w3.heap.size, 2, none⟩ = some (.int .i64 p.fi) := gbx_cell X7.out 2
        have c3 : V7.cell? ⟨w3.heap.size, 3, none⟩ = some (.int .i64 p.lf) := gbx_cell X7.out 3
        rw [hpt] at c0
        rw [hpn] at c1
        rw [hpf] at c2
        rw [hpl] at c3
        generalize placeA S o kd = a0 at *
        clear AN AY TDL P1 P2 P7 W7 NO hpt hpn hpf hpl s1 s2 X7 O7 IV IV2 LB
        go_wp2_with fail
        clear c0 c1 c2 c3
        go_loopw [89] (fun i wr => ∃ j : Nat, j ≤ n7 ∧ i = .int .i64 j ∧ Below V7.heap.size V7 wr) (fun i _ => n7 - (intOf i).toNat)
        case atStart => exact ⟨0, Nat.zero_le _, rfl, B7.out⟩
        case round =>
          obtain ⟨j, hj, rfl, hb⟩ := hrel
          have BW := Lib.hid hb
          have lnn := LN.out
          clear hb
          by_cases hlt : j < n7
          case pos =>
            have hd3 : decide ((j : Int) < n7) = true := decide_eq_true (by omega)
            have hki : (j : Int) < (n7 : Int) := by omega
            obtain ⟨x, hx⟩ : ∃ x, S.all[j]? = some x := ⟨S.all[j]'(by rw [R7.out.1]; exact hlt), List.getElem?_eq_getElem _⟩
            obtain ⟨b1, o1, e1, g1⟩ := grd_rng R5.out hx
            obtain ⟨b2, o2, e2, g2⟩ := grd_rng R7.out hx
            subst e1 e2
            have R1 : Hid (∀ U, Below V7.heap.size V7 U → U.rangeAt b1 (o1 + j * 5) (EO.cells x)) := Lib.hid fun U hU => rng_below g1 hU (Nat.le_refl _)
            have R2 : Hid (∀ U, Below V7.heap.size V7 U → U.rangeAt b2 (o2 + j * 5) (EO.cells x)) := Lib.hid fun U hU => rng_below g2 hU (Nat.le_refl _)
            have XOK := Lib.hid (LA.out.1 x (List.mem_of_getElem? hx)).1
            clear g1 g2 hx
            go_wp2_with fail
            refine wp_region_held_drew (S := fun U => Below V7.heap.size V7 U) (by kernel_rfl) BW.out.drew (fun hH => ?_)
            refine wpAnyH_take (i := 0) (v := .slice (some ⟨b1, o1, none⟩) n7 c5) rfl (by kernel_rfl) (by kernel_rfl) (by kernel_rfl) (fun _ _ _ h => h) (.inl ⟨by rfl, ?_⟩) (by assumption) ?_
            · intro W hW; go_simp
            try simp only [List.getElem_toArray, List.getElem_cons_zero, Act.put, List.setIfInBounds_toArray, List.set_cons_zero, List.set_cons_succ]
            refine wpAnyH_take (i := 1) (v := .int .i64 j) rfl (by kernel_rfl) (by kernel_rfl) (by kernel_rfl) (fun _ _ _ h => h) (.inl ⟨by rfl, ?_⟩) (by assumption) ?_
            · intro W hW; go_simp
            try simp only [List.getElem_toArray, List.getElem_cons_zero, List.getElem_cons_succ, Act.put, List.setIfInBounds_toArray, List.set_cons_zero, List.set_cons_succ]
            refine wpAnyH_take (i := 2) (v := .pointer (some ⟨b1, o1 + j * 5, none⟩)) rfl (by kernel_rfl) (by kernel_rfl) (by kernel_rfl) (fun _ _ _ h => h) (.inl ⟨by rfl, ?_⟩) (by assumption) ?_
            · intro W hW; go_simp
            try simp only [List.getElem_toArray, List.getElem_cons_zero, List.getElem_cons_succ, Act.put, List.setIfInBounds_toArray, List.set_cons_zero, List.set_cons_succ]
            refine wpAnyH_take (i := 3) (v := .agg (EO.cells x).toArray) rfl (by kernel_rfl) (by kernel_rfl) (by kernel_rfl) (fun _ _ _ h => h) (gyields_load TO (by rfl) (.tmp 94) rfl b1 (o1 + j * 5) rfl R1.out) (by assumption) ?_
            try simp only [List.getElem_toArray, List.getElem_cons_zero, List.getElem_cons_succ, Act.put, List.setIfInBounds_toArray, List.set_cons_zero, List.set_cons_succ]
            refine wpAnyH_take (i := 4) (v := .slice (some ⟨b2, o2, none⟩) n7 c7) rfl (by kernel_rfl) (by kernel_rfl) (by kernel_rfl) (fun _ _ _ h => h) (.inl ⟨by rfl, ?_⟩) (by assumption) ?_
            · intro W hW; go_simp
            try simp only [List.getElem_toArray, List.getElem_cons_zero, List.getElem_cons_succ, Act.put, List.setIfInBounds_toArray, List.set_cons_zero, List.set_cons_succ]
            refine wpAnyH_take (i := 5) (v := .int .i64 j) rfl (by kernel_rfl) (by kernel_rfl) (by kernel_rfl) (fun _ _ _ h => h) (.inl ⟨by rfl, ?_⟩) (by assumption) ?_
            · intro W hW; go_simp
            try simp only [List.getElem_toArray, List.getElem_cons_zero, List.getElem_cons_succ, Act.put, List.setIfInBounds_toArray, List.set_cons_zero, List.set_cons_succ]
            refine wpAnyH_take (i := 6) (v := .pointer (some ⟨b2, o2 + j * 5, none⟩)) rfl (by kernel_rfl) (by kernel_rfl) (by kernel_rfl) (fun _ _ _ h => h) (.inl ⟨by rfl, ?_⟩) (by assumption) ?_
            · intro W hW; go_simp
            try simp only [List.getElem_toArray, List.getElem_cons_zero, List.getElem_cons_succ, Act.put, List.setIfInBounds_toArray, List.set_cons_zero, List.set_cons_succ]
            refine wpAnyH_take (i := 7) (v := .agg (EO.cells x).toArray) rfl (by kernel_rfl) (by kernel_rfl) (by kernel_rfl) (fun _ _ _ h => h) (gyields_load TO (by rfl) (.tmp 98) rfl b2 (o2 + j * 5) rfl R2.out) (by assumption) ?_
            try simp only [List.getElem_toArray, List.getElem_cons_zero, List.getElem_cons_succ, Act.put, List.setIfInBounds_toArray, List.set_cons_zero, List.set_cons_succ]
            refine wpAnyH_take (i := 8) (v := .bool false) rfl (by kernel_rfl) (by kernel_rfl) (by kernel_rfl) (fun _ _ _ h => h) (yields_neq_or0 (by rfl) (.tmp 95) (.tmp 99) rfl XOK.out rfl rfl) (by assumption) ?_
            try simp only [List.getElem_toArray, List.getElem_cons_zero, List.getElem_cons_succ, Act.put, List.setIfInBounds_toArray, List.set_cons_zero, List.set_cons_succ]
            refine wpAnyH_done (by decide +kernel) ?_ _
            have BD := Lib.hid hH
            clear hH
            go_wp2_with fail
            go_roundw
            case rel => exact ⟨j + 1, hlt, by go_num, BD.out⟩
            case measure => simp [intOf]; omega
          case neg =>
            obtain rfl : j = n7 := by omega
            have hd3 : decide ((j : Int) < j) = false := decide_eq_false (by omega)
            go_wp2_with fail
            refine (KNF.out _ (BE.out _ BW.out)).mono ?_; rintro e w9 ⟨rfl, qf⟩
            have BF := Lib.hid qf
            clear qf
            go_wp2_with fail
            go_ret
            exact ⟨rfl, BF.out⟩
      case pos =>
        rw [h0]
        have FR := Lib.hid (AY.out h0)
        obtain ⟨td, htd⟩ : ∃ td, (placeP S o kd).td = td := ⟨_, rfl⟩
        obtain ⟨gn, hgn⟩ : ∃ gn, (placeP S o kd).gn = gn := ⟨_, rfl⟩
        obtain ⟨S2, hS2⟩ : ∃ S2, placeS S o kd = S2 := ⟨_, rfl⟩
        rw [htd, hgn] at P7
        rw [htd, hgn, hS2, ← P1.out, ← P2.out] at FR
        rw [htd] at TDL
        rw [hS2] at NO LB IV2
        have hpt : p.tn = td.length := P7.out.tl
        have hpn : p.nn = gn.length := P7.out.nl
        have TO7 : Hid (ET.Own 63 V7 V5.heap.size (.slice p.ta td.length p.tc) td) := Lib.hid (hpt ▸ P7.out.to)
        have NO7 : Hid (ENu.Own 28 V7 V5.heap.size (.slice p.na gn.length p.nc) gn) := Lib.hid (hpn ▸ P7.out.no)
        have PC : Hid (∀ U, Below V7.heap.size V7 U → U.cell? ⟨w3.heap.size, 0, none⟩ = some (.slice p.ta td.length p.tc) ∧ U.cell? ⟨w3.heap.size, 1, none⟩ = some (.slice p.na gn.length p.nc) ∧ U.cell? ⟨w3.heap.size, 2, none⟩ = some (.int .i64 p.fi) ∧ U.cell? ⟨w3.heap.size, 3, none⟩ = some (.int .i64 p.lf)) := Lib.hid fun U hU => by
          have h := gbx_below X7.out hU
          refine ⟨?_, ?_, ?_, ?_⟩
          · rw [← hpt]; exact gbx_cell h 0
          · rw [← hpn]; exact gbx_cell h 1
          · exact gbx_cell h 2
          · exact gbx_cell h 3
        have OC : Hid (∀ U, Below V7.heap.size V7 U → U.cell? ⟨w.heap.size, 1, none⟩ = some (.int .u32 o.ac) ∧ U.cell? ⟨w.heap.size, 2, none⟩ = some (.bool o.bu) ∧ U.cell? ⟨w.heap.size, 3, none⟩ = some (.int .i64 o.pr) ∧ U.cell? ⟨w.heap.size, 4, none⟩ = some (.int .i64 o.le)) := Lib.hid fun U hU => by
          have h := gbx_below O7.out hU
          exact ⟨gbx_cell h 1, gbx_cell h 2, gbx_cell h 3, gbx_cell h 4⟩
        have hn5 : n5 = S.all.length := (gown_rd W7.out).1.symm
        subst hn5
        obtain ⟨fi, hfi⟩ : ∃ fi, p.fi = fi := ⟨_, rfl⟩
        obtain ⟨lf, hlf⟩ : ∃ lf, p.lf = lf := ⟨_, rfl⟩
        rw [hfi, hlf] at PC FR
        obtain ⟨c0, c1, c2, c3⟩ := PC.out V7 B7.out
        clear AN AY P1 P2 P7 hpt hpn htd hgn hS2 hfi hlf h0 X7 O7
        go_wp2_with fail
        clear c0 c1 c2 c3
        go_loopw [14, 106] (fun s i wr => ∃ j : Nat, j ≤ td.length ∧ s = .int .i64 (sumT (td.take j)) ∧ i = .int .i64 j ∧ Below V7.heap.size V7 wr) (fun _ i _ => td.length - (intOf i).toNat)
        case atStart => exact ⟨0, Nat.zero_le _, rfl, rfl, B7.out⟩
        case round =>
          obtain ⟨j, hj, rfl, rfl, hb⟩ := hrel
          have BW := Lib.hid hb
          have tdl := TDL.out
          have fr := FR.out.fr
          have sl := sumT_le td (fun x hx => (FR.out.each x hx).1) j
          rw [FR.out.sum] at sl
          clear hb
          by_cases hlt : j < td.length
          case pos =>
            have hd3 : decide ((j : Int) < td.length) = true := decide_eq_true (by omega)
            have hki : (j : Int) < (td.length : Int) := by omega
            obtain ⟨x, hx⟩ : ∃ x, td[j]? = some x := ⟨td[j]'hlt, List.getElem?_eq_getElem _⟩
            have own := TO7.out
            obtain ⟨b, c', eb⟩ := gown_slot own (by omega)
            injection eb with e1 e9 e2
            clear e9
            rw [e1, e2] at own PC
            have R1 : Hid (wr.rangeAt b (j * 4) (ET.cells x)) := Lib.hid (gown_rng (gown_below own BW.out) hx)
            obtain ⟨V, hV, bV, yV, zV, sV⟩ := put_td x BW.out
            have HV := Lib.hid hV
            have ZV := Lib.hid zV
            have BV := Lib.hid bV
            have t0 : V.cell? ⟨wr.heap.size, 0, none⟩ = some (.int .i64 x.pr) := gbx_cell yV 0
            have t1 : V.cell? ⟨wr.heap.size, 1, none⟩ = some (.int .i64 x.qt) := gbx_cell yV 1
            have t3 : V.cell? ⟨wr.heap.size, 3, none⟩ = some (.int .u32 x.ac) := gbx_cell yV 3
            obtain ⟨d1, d2, d3, d4⟩ := OC.out V bV
            obtain ⟨c0, c1, c2, c3⟩ := PC.out V bV
            obtain ⟨k0, k1, k2, k3⟩ := PC.out wr BW.out
            obtain ⟨g1, g2, g3, g4⟩ := FR.out.each x (List.mem_of_getElem? hx)
            have f1 : decide (x.qt < 1) = false := decide_eq_false (by omega)
            have f2 : (x.ac == o.ac) = false := beq_eq_false_iff_ne.2 g2
            have SN := Lib.hid (sumT_snoc td hx)
            have sl2 := sumT_le td (fun x hx => (FR.out.each x hx).1) (j + 1)
            rw [FR.out.sum, sumT_snoc td hx] at sl2
            have PV : j = 0 ∨ ∃ j' y, j = j' + 1 ∧ V.cell? ⟨b, j' * 4, none⟩ = some (.int .i64 y) ∧ (o.bu = true → decide (x.pr < y) = false) ∧ (o.bu = false → decide (y < x.pr) = false) := by
              cases j with
              | zero => exact .inl rfl
              | succ j' =>
                obtain ⟨y, hy⟩ : ∃ y, td[j']? = some y := ⟨td[j']'(by omega), List.getElem?_eq_getElem _⟩
                obtain ⟨z1, z2⟩ := FR.out.next j' y x hy hx
                exact .inr ⟨j', y.pr, rfl, gown_at (gown_below own bV) hy (i := 0) (by decide), fun h => decide_eq_false (by have := z1 h; omega), fun h => decide_eq_false (by have := z2 h; omega)⟩
            have OB2 : (o.bu = true ∧ decide (o.pr < x.pr) = false) ∨ (o.bu = false ∧ decide (x.pr < o.pr) = false) := by
              cases hb : o.bu
              · exact .inr ⟨rfl, decide_eq_false (by have := g4 hb; omega)⟩
              · exact .inl ⟨rfl, decide_eq_false (by have := g3 hb; omega)⟩
            have PVH := Lib.hid PV
            have OBH := Lib.hid OB2
            obtain ⟨s, hs⟩ : ∃ s, sumT (td.take j) = s := ⟨_, rfl⟩
            rw [hs] at SN sl sl2 ⊢
            clear own hx hV bV yV zV sV g1 g2 g3 g4 PV OB2 hs e1 e2 c1 c2 c3 k1 k2 k3 d4
            generalize x.qt = xq at *
            generalize x.ac = xa at *
            have hs1 : -9223372036854775808 ≤ s + xq := by omega
            have hs2 : s + xq ≤ 9223372036854775807 := by omega
            rcases PVH.out with rfl | ⟨j', y, rfl, py, z1, z2⟩
            · have hj0 : decide ((0 : Int) < 0) = false := by decide
              rcases OBH.out with ⟨hb, hp⟩ | ⟨hb, hp⟩
              all_goals
                rw [hb] at d2
                go_wp2_with (first | ((with_reducible refine gwl_load (d := some 113) TT b _ R1.out ?_ ?_ ?_); rfl; rfl) | ((with_reducible refine gwl_store TT x wr.heap.size ZV.out ?_ ?_ ?_); rfl; rfl; rw [HV.out]))
                go_quiet (fail)
                go_wp2_with fail
                go_roundw
                case rel => exact ⟨1, hlt, by rw [SN.out], by go_num, below_drewN BV.out _⟩
                case measure => simp [intOf]; omega
            · have hj0 : decide ((0 : Int) < ((j' + 1 : Nat) : Int)) = true := decide_eq_true (by omega)
              rcases OBH.out with ⟨hb, hp⟩ | ⟨hb, hp⟩
              all_goals
                rw [hb] at d2
                have zz := by first | exact z1 hb | exact z2 hb
                go_wp2_with (first | ((with_reducible refine gwl_load (d := some 113) TT b _ R1.out ?_ ?_ ?_); rfl; rfl) | ((with_reducible refine gwl_store TT x wr.heap.size ZV.out ?_ ?_ ?_); rfl; rfl; rw [HV.out]))
                go_quiet (fail)
                go_wp2_with fail
                go_roundw
                case rel => exact ⟨j' + 1 + 1, hlt, by rw [SN.out], by go_num, below_drewN BV.out _⟩
                case measure => simp [intOf]; omega
          case neg =>
            obtain rfl : j = td.length := by omega
            have hd3 : decide ((td.length : Int) < td.length) = false := decide_eq_false (by omega)
            rw [List.take_length, FR.out.sum]
            clear sl
            go_wp2_with fail
            go_loopw [15, 189] (fun s i wr => ∃ j : Nat, j ≤ S.all.length ∧ s = .int .i64 (ownS gn (S.all.take j)) ∧ i = .int .i64 j ∧ Below V7.heap.size V7 wr) (fun _ i _ => S.all.length - (intOf i).toNat)
            case atStart => exact ⟨0, Nat.zero_le _, rfl, rfl, BW.out⟩
            case round =>
              obtain ⟨i, hi, rfl, rfl, hb⟩ := hrel
              have BW2 := Lib.hid hb
              have lal := LA.out.2
              have gl := FR.out.gl
              have ol := ownS_le gl (S.all.take i) (fun x hx => (LA.out.1 x (List.mem_of_mem_take hx)).2)
              have htl : (S.all.take i).length ≤ 200 := by rw [List.length_take]; omega
              obtain ⟨c0, c1, c2, c3⟩ := PC.out wr hb
              clear hb
              by_cases hlt : i < S.all.length
              case neg =>
                obtain rfl : i = S.all.length := by omega
                have hd4 : decide ((S.all.length : Int) < S.all.length) = false := decide_eq_false (by omega)
                rw [List.take_length] at ol ⊢
                have e1 := FR.out.own
                have e2 := FR.out.oth
                rw [← tot_all IV.out.inv, ← tot_all IV2.out.inv] at e1 e2
                have ta := tot_le true S.all (fun x hx => (LA.out.1 x hx).2)
                have tb := tot_le false S.all (fun x hx => (LA.out.1 x hx).2)
                have T1 := Lib.hid (total7_any (gown_below W7.out BW2.out) LA.out.1 LA.out.2)
                have T2 := Lib.hid (total7_any (gown_below NO.out BW2.out) LB.out.1 LB.out.2)
                obtain ⟨d1, d2, d3, d4⟩ := OC.out wr BW2.out
                obtain ⟨ow, how⟩ : ∃ ow, ownS gn S.all = ow := ⟨_, rfl⟩
                rw [how] at ol e2 ⊢
                cases hb : o.bu
                all_goals
                  rw [hb] at e1 e2 d2
                  simp only [Bool.not_true, Bool.not_false] at e2
                  rw [e1, e2] at T2
                  clear e1 e2
                  generalize tot true S.all = tx at *
                  generalize tot false S.all = ty at *
                  generalize o.le = le at *
                  go_wp2_with fail
                  refine T1.out.mono ?_; rintro e w8 ⟨rfl, rfl⟩
                  go_wp2_with fail
                  refine T2.out.mono ?_; rintro e w8 ⟨rfl, rfl⟩
                  go_wp2_with fail
                  refine (KNF.out _ (BE.out _ BW2.out)).mono ?_; rintro e w9 ⟨rfl, qf⟩
                  have BF := Lib.hid qf
                  clear qf
                  go_wp2_with fail
                  go_ret
                  exact ⟨rfl, BF.out⟩
              case pos =>
                have hd4 : decide ((i : Int) < S.all.length) = true := decide_eq_true (by omega)
                have hki : (i : Int) < (S.all.length : Int) := by omega
                obtain ⟨x, hx⟩ : ∃ x, S.all[i]? = some x := ⟨S.all[i]'hlt, List.getElem?_eq_getElem _⟩
                have own := W7.out
                obtain ⟨b, c', eb⟩ := gown_slot own (by omega)
                injection eb with e1 e9 e2
                clear e9
                subst e1 e2
                have xle := (LA.out.1 x (List.mem_of_getElem? hx)).2
                have GO : Hid (∀ m, m ∈ gn → (x.nu == m) = false ∨ (x.nu == m) = true ∧ x.ac = o.ac ∧ x.bu = !o.bu) := Lib.hid fun m hm => by
                  by_cases c : x.nu = m
                  · obtain ⟨q1, q2⟩ := FR.out.gone x (List.mem_of_getElem? hx) (c ▸ hm)
                    exact .inr ⟨beq_iff_eq.2 c, q1, q2⟩
                  · exact .inl (beq_eq_false_iff_ne.2 c)
                have SN := Lib.hid (ownS_snoc gn S.all hx)
                have XC : Hid (∀ U, Below V7.heap.size V7 U → U.cell? ⟨b, i * 5, none⟩ = some (.int .u64 x.nu) ∧ U.cell? ⟨b, i * 5 + 1, none⟩ = some (.int .u32 x.ac) ∧ U.cell? ⟨b, i * 5 + 2, none⟩ = some (.bool x.bu) ∧ U.cell? ⟨b, i * 5 + 4, none⟩ = some (.int .i64 x.le)) := Lib.hid fun U hU => by
                  have h := gown_below own hU
                  exact ⟨gown_at h hx (i := 0) (by decide), gown_at h hx (i := 1) (by decide), gown_at h hx (i := 2) (by decide), gown_at h hx (i := 4) (by decide)⟩
                obtain ⟨s, hs⟩ : ∃ s, ownS gn (S.all.take i) = s := ⟨_, rfl⟩
                rw [hs] at SN ol ⊢
                clear own hx hs
                go_wp2_with fail
                clear c0 c1 c2 c3
                go_loopw [15, 195] (fun s' j' wr2 => ∃ j : Nat, j ≤ gn.length ∧ s' = .int .i64 (s + own1 (gn.take j) x) ∧ j' = .int .i64 j ∧ Below V7.heap.size V7 wr2) (fun _ j' _ => gn.length - (intOf j').toNat)
                case atStart => exact ⟨0, Nat.zero_le _, by rw [List.take_zero]; simp [own1], rfl, BW2.out⟩
                case round =>
                  obtain ⟨j, hj, rfl, rfl, hb⟩ := hrel
                  have BW3 := Lib.hid hb
                  have o1 := own1_le xle (gn.take j)
                  have gtl : (gn.take j).length ≤ 100 := by rw [List.length_take]; omega
                  by_cases hlt2 : j < gn.length
                  case neg =>
                    obtain rfl : j = gn.length := by omega
                    have hd5 : decide ((gn.length : Int) < gn.length) = false := decide_eq_false (by omega)
                    rw [List.take_length]
                    rw [List.take_length] at o1
                    clear hb
                    go_wp2_with fail
                    go_roundw
                    case rel => exact ⟨i + 1, hlt, by rw [SN.out], by go_num, BW3.out⟩
                    case measure => simp [intOf]; omega
                  case pos =>
                    have hd5 : decide ((j : Int) < gn.length) = true := decide_eq_true (by omega)
                    have hji : (j : Int) < (gn.length : Int) := by omega
                    obtain ⟨m, hm⟩ : ∃ m, gn[j]? = some m := ⟨gn[j]'hlt2, List.getElem?_eq_getElem _⟩
                    have ong := NO7.out
                    obtain ⟨b3, c3', eb⟩ := gown_slot ong (by omega)
                    injection eb with e1 e9 e2
                    clear e9
                    rw [e1, e2] at ong PC
                    have m0 : wr.cell? ⟨b3, j, none⟩ = some (.int .u64 m) := by
                      have h := gown_at (gown_below ong hb) hm (i := 0) (by decide)
                      rwa [show j * ENu.N + 0 = j by show j * 1 + 0 = _; omega] at h
                    obtain ⟨x0, x1, x2, x4⟩ := XC.out wr hb
                    obtain ⟨c0, c1, c2, c3⟩ := PC.out wr hb
                    obtain ⟨d1, d2, d3, d4⟩ := OC.out wr hb
                    have GM := Lib.hid (GO.out m (List.mem_of_getElem? hm))
                    have S1 := Lib.hid (own1_snoc gn x hm)
                    obtain ⟨q, hq⟩ : ∃ q, own1 (gn.take j) x = q := ⟨_, rfl⟩
                    rw [hq] at S1 o1 ⊢
                    clear hb ong hm hq e1 e2 c0 c2 c3 d3 d4
                    generalize x.nu = xn at *
                    generalize x.ac = xa at *
                    generalize x.le = xl at *
                    generalize o.bu = ob at *
                    generalize x.bu = xb at *
                    have hq1 : -9223372036854775808 ≤ s + q + xl := by omega
                    have hq2 : s + q + xl ≤ 9223372036854775807 := by omega
                    rcases GM.out with g | ⟨g, ga, gb⟩
                    · go_wp2_with fail
                      go_quiet (fail)
                      go_wp2_with fail
                      go_roundw
                      case rel => exact ⟨j + 1, hlt2, by rw [S1.out, g]; simp, by go_num, below_drewN BW3.out _⟩
                      case measure => simp [intOf]; omega
                    · subst gb ga
                      cases ob
                      all_goals
                        go_wp2_with fail
                        go_quiet (fail)
                        go_wp2_with fail
                        go_quiet (fail)
                        go_wp2_with fail
                        go_roundw
                        case rel => exact ⟨j + 1, hlt2, by rw [S1.out, g]; simp [Int.add_assoc], by go_num, below_drewN BW3.out _⟩
                        case measure => simp [intOf]; omega
theorem trades7_all {Pb : PbT} (K : BookK Pb) (A : Option Addr) (n c : Nat) (l : List Op7) (o : Or) (kd : Int) (w : World) (hr : EOp.Rd w A n l) (hok : ∀ x, x ∈ l → x.ok) (hm : n ≤ maxLen) (ok : o.ok) :
    Calls Try.prog 6 #[.slice A n c, .agg (EO.cells o).toArray, .int .u8 kd] w fun e w' => e = .returned (.bool true) ∧ Below w.heap.size w w' := by
  unfold maxLen at hm
  rcases Nat.lt_or_ge 100 n with h | h
  · exact trades7_out K A n c o kd w h (by omega)
  · exact trades7_in K A n c l o kd w hr hok h ok
end Go.Proofs.Ytdcjgcjnfcahkaa
