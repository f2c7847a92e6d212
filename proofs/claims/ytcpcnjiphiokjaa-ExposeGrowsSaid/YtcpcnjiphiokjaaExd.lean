/- What stakes need: the program's (by genExd.py). -/
import Derived.Test.YtcpcnjiphiokjaaExc
import Derived.Test.YtcpcnjiphiokjaaTg
import Derived.Test.YtcpcnjiphiokjaaExg
namespace Go.Proofs.Ytcpcnjiphiokjaa
open Go.RowKit Go.Shelf
set_option linter.unusedVariables false
set_option linter.unusedSimpArgs false

set_option maxRecDepth 100000 in
set_option maxHeartbeats 1000000 in
theorem need_long (A : Option Addr) (n c : Nat) (l : List Sk) (w : World) (h : EK.Rd w A n l) (hn : n ≤ maxLen) (hl : 16 < l.length) :
    Calls Try.prog 10 #[.slice A n c] w fun e w' => e = .returned (.tuple #[.agg (EN.cells zeroNd).toArray, .int .i64 3]) ∧ Below w.heap.size w w' := by
  have hz := zero_n11
  have d := h.1
  unfold maxLen at hn
  have c1 : decide ((16 : Int) < (n : Int)) = true := decide_eq_true (by omega)
  obtain ⟨W1, hW1⟩ : ∃ W1, w.alloc (.cells (EN.cells zeroNd).toArray 35) = W1 := ⟨_, rfl⟩
  have x1 : EN.Bx 35 W1 w.heap.size zeroNd := by rw [← hW1]; exact gbx_new w _
  have B1 := Lib.hid (show Below w.heap.size w W1 by rw [← hW1]; exact below_new w _)
  have X1 := Lib.hid x1
  have HW := Lib.hid hW1
  clear x1 hW1 h d hl
  go_enter Try.func10, Try.ntmps10
  go_wp2_with (first | (rw [HW.out]) | (refine rwl_build0 built0_n11 ?_) | (refine rwl_store TN zeroNd w.heap.size X1.out rfl rfl ?_))
  exact bodyPost_ret (rret TN rfl _ _ w.heap.size rfl rfl (gbx_set X1.out)) rfl ⟨rfl, below_row0 B1.out (Nat.le_refl _)⟩
set_option maxRecDepth 100000 in
set_option maxHeartbeats 1000000 in
theorem need_arg (A : Option Addr) (n c : Nat) (l : List Sk) (w : World) (h : EK.Rd w A n l) (hok : ∀ x, x ∈ l → x.ok ∧ x.In w) (hl : l.length ≤ 16) (ha : l.all stkB = false) :
    Calls Try.prog 10 #[.slice A n c] w fun e w' => e = .returned (.tuple #[.agg (EN.cells zeroNd).toArray, .int .i64 2]) ∧ Below w.heap.size w w' := by
  have hz := zero_n11
  have eg : ∀ args w, (callFunc 16 args).run Try.prog w = .ok (.enter 16 args) w := fun args w => by go_simp
  have d := h.1
  have c1 : decide ((16 : Int) < (n : Int)) = false := decide_eq_false (by omega)
  obtain ⟨W1, hW1⟩ : ∃ W1, w.alloc (.cells (EN.cells zeroNd).toArray 35) = W1 := ⟨_, rfl⟩
  have x1 : EN.Bx 35 W1 w.heap.size zeroNd := by rw [← hW1]; exact gbx_new w _
  have b1 : Below w.heap.size w W1 := by rw [← hW1]; exact below_new w _
  have CO := Lib.hid (contk11 A n c l W1 (grd_below h b1 (Nat.le_refl _)) (fun x hx => ⟨(hok x hx).1, grd_below (hok x hx).2 b1 (Nat.le_refl _)⟩) (by omega))
  rw [ha] at CO
  have B1 := Lib.hid b1
  have X1 := Lib.hid fun (W2 : World) (q : Below W1.heap.size W1 W2) => (show EN.Bx 35 W2 w.heap.size zeroNd from gbx_below x1 q)
  have HW := Lib.hid hW1
  clear x1 hW1 h d hl ha hok b1
  go_enter Try.func10, Try.ntmps10
  go_wp2_with (rw [HW.out])
  refine CO.out.mono ?_; rintro e w2 ⟨rfl, q2⟩
  have Q2 := Lib.hid q2
  clear q2
  go_wp2_with (first | (refine rwl_build0 built0_n11 ?_) | (refine rwl_store TN zeroNd w.heap.size (X1.out _ Q2.out) rfl rfl ?_))
  exact bodyPost_ret (rret TN rfl _ _ w.heap.size rfl rfl (gbx_set (X1.out _ Q2.out))) rfl ⟨rfl, below_row0 (B1.out.trans (Q2.out.mono B1.out.size)) (Nat.le_refl _)⟩
set_option maxRecDepth 100000 in
set_option maxHeartbeats 8000000 in
theorem need_ok (A : Option Addr) (n c : Nat) (l : List Sk) (w : World) (h : EK.Rd w A n l) (hok : ∀ x, x ∈ l → x.ok ∧ x.In w) (hs : StksB l) :
    Calls Try.prog 10 #[.slice A n c] w fun e w' => e = .returned (.tuple #[.agg (EN.cells (neN l)).toArray, .int .i64 (neE l)]) ∧ Below w.heap.size w w' := by
  have hz := zero_n11
  have hzk := zero_k11
  have eg : ∀ args w, (callFunc 16 args).run Try.prog w = .ok (.enter 16 args) w := fun args w => by go_simp
  have d := h.1
  have hn : n ≤ 16 := by have := hs.1; omega
  have c1 : decide ((16 : Int) < (n : Int)) = false := decide_eq_false (by omega)
  obtain ⟨W1, hW1⟩ : ∃ W1, w.alloc (.cells (EN.cells zeroNd).toArray 35) = W1 := ⟨_, rfl⟩
  have x1 : EN.Bx 35 W1 w.heap.size zeroNd := by rw [← hW1]; exact gbx_new w _
  have b1 : Below w.heap.size w W1 := by rw [← hW1]; exact below_new w _
  have l1 : w.heap.size < W1.heap.size := (Array.getElem?_eq_some_iff.1 x1).1
  have CO := Lib.hid (contk11 A n c l W1 (grd_below h b1 (Nat.le_refl _)) (fun x hx => ⟨(hok x hx).1, grd_below (hok x hx).2 b1 (Nat.le_refl _)⟩) (by omega))
  rw [List.all_eq_true.2 hs.2] at CO
  have HR := Lib.hid fun (W : World) (q : Below w.heap.size w W) => (show EK.Rd W A n l from grd_below h q (Nat.le_refl _))
  have HI := Lib.hid fun (W : World) (q : Below w.heap.size w W) (x : Sk) (hx : x ∈ l) => (show x.In W from grd_below (hok x hx).2 q (Nat.le_refl _))
  have HK := Lib.hid fun x hx => (hok x hx).1
  have HS := Lib.hid hs
  have HL := Lib.hid d
  have B1 := Lib.hid b1
  have L1 := Lib.hid l1
  have X1 := Lib.hid fun (W2 : World) (q : Below W1.heap.size W1 W2) => (show EN.Bx 35 W2 w.heap.size zeroNd from gbx_below x1 q)
  have HW := Lib.hid hW1
  clear x1 hW1 h d hs hok b1 l1
  go_enter Try.func10, Try.ntmps10
  go_wp2_with (rw [HW.out])
  refine CO.out.mono ?_; rintro e w2 ⟨rfl, q2⟩
  obtain ⟨g2, hg2⟩ : ∃ g, w.heap.size = g := ⟨_, rfl⟩
  obtain ⟨g6, hg6⟩ : ∃ g, w2.heap.size = g := ⟨_, rfl⟩
  obtain ⟨W3, hW3⟩ : ∃ W3, w2.alloc (.cells (EN.cells zeroNd).toArray 35) = W3 := ⟨_, rfl⟩
  obtain ⟨B, hB⟩ : ∃ B, W3.heap.size = B := ⟨_, rfl⟩
  have x3 : EN.Bx 35 W3 w2.heap.size zeroNd := by rw [← hW3]; exact gbx_new w2 _
  have b3 : Below w2.heap.size w2 W3 := by rw [← hW3]; exact below_new w2 _
  have s6 : g6 < B := by rw [← hg6, ← hB]; exact (Array.getElem?_eq_some_iff.1 x3).1
  have s2 : w.heap.size < g6 := by have := L1.out; have := q2.size; omega
  have N0 : Nl w B w.heap.size g6 (.slice none 0 0) [] 0 0 W3 := ⟨gown_nil _ _, by rw [← hg6]; exact x3, gbx_below (X1.out _ q2) b3, (B1.out.trans (q2.mono B1.out.size)).trans (b3.mono (by omega)), by omega, by omega, s2, s6⟩
  have HN0 := Lib.hid N0
  have HW3 := Lib.hid hW3
  have HG := Lib.hid hg6
  have HBB := Lib.hid hB
  have S6 := Lib.hid s6
  have S2 := Lib.hid s2
  clear x3 b3 N0 hg2 hW3 q2 s6 s2 hB
  go_wp2_with (rw [HW3.out])
  clear hg6
  go_loopw [5, 23] (fun L i wr => ∃ k : Nat, k ≤ n ∧ i = .int .i64 k ∧ Nl w B w.heap.size g6 L (lgK (l.take k)) (sumK wsK (l.take k)) (sumK mkK (l.take k)) wr) (fun _ i _ => n - (intOf i).toNat)
  case atStart => exact ⟨0, Nat.zero_le _, rfl, HN0.out⟩
  case round =>
    obtain ⟨k, hk, rfl, hN⟩ := hrel
    have HN := Lib.hid hN
    have wb := sumW_bd (HS.out.take k)
    have ub := sumU_bd (HS.out.take k)
    clear hN
    by_cases hlt : k < n
    case neg =>
      obtain rfl : k = n := by omega
      have T : Hid (l.take k = l) := Lib.hid (List.take_of_length_le (by rw [HL.out]; exact Nat.le_refl _))
      rw [T.out] at HN wb ub
      obtain ⟨b1, b2⟩ := ub
      obtain ⟨A5, c5, rfl, h05⟩ := gown_form HN.out.own
      have ML := Lib.hid (neE_cases l)
      have HN1 := Lib.hid (HN.out.put2 (max (sumK mkK l) 0))
      have MA := Lib.hid fun (W : World) (q : Below (wr.setCell ⟨g6, 2, none⟩ (.int .i64 (max (sumK mkK l) 0))).heap.size (wr.setCell ⟨g6, 2, none⟩ (.int .i64 (max (sumK mkK l) 0))) W) => margin10 A5 (lgK l).length c5 (lgK l) W (grd_below (gown_rd HN1.out.own) q (Nat.le_refl _)) (fun y hy => by
        obtain ⟨z, hz, rfl⟩ := List.mem_map.1 hy
        exact (HK.out z hz).lg) (by rw [lgK, List.length_map, HL.out]; unfold maxLen; omega)
      have U5 := Lib.hid (HN1.out)
      obtain ⟨u, hu⟩ : ∃ u, sumK mkK l = u := ⟨_, rfl⟩
      obtain ⟨ws, hws⟩ : ∃ u, sumK wsK l = u := ⟨_, rfl⟩
      have HCS := Lib.hid (show (marE (lgK l) = 8 ∧ neE l = 8 ∧ neN l = zeroNd) ∨ (marE (lgK l) = 0 ∧ neE l = 0 ∧ neN l = ⟨marN (lgK l), ws, max u 0⟩) by
        rcases ML.out with c | c | c | c
        · have := HS.out.1; omega
        · have := List.all_eq_true.2 HS.out.2; rw [this] at c; cases c.2.1
        · exact .inl c.2
        · rw [hu, hws] at c; exact .inr c.2)
      rw [hu] at HN1 MA U5 b1 b2
      rw [hu, hws] at HN
      rw [hws] at U5 HN1
      obtain ⟨me, hme⟩ : ∃ e, marE (lgK l) = e := ⟨_, rfl⟩
      obtain ⟨mn, hmn⟩ : ∃ e, marN (lgK l) = e := ⟨_, rfl⟩
      rw [hme, hmn] at HCS MA
      have M6 := Lib.hid (MA.out _ (Below.refl _ _))
      have k62 := HN.out.c2
      have f62 := HN.out.f 2
      obtain ⟨W5, hW5⟩ : ∃ W, wr.setCell ⟨g6, 2, none⟩ (.int .i64 (max u 0)) = W := ⟨_, rfl⟩
      rw [hW5] at HN1 M6
      have HW5 := Lib.hid hW5
      clear hu hws hme hmn ML MA T wb U5 hW5
      go_wp2_with (rw [HW5.out])
      refine M6.out.mono ?_; rintro e w6 ⟨rfl, q6⟩
      have HN6 := Lib.hid (HN1.out.below q6)
      clear q6
      rcases HCS.out with ⟨rfl, e1, e2⟩ | ⟨rfl, e1, e2⟩
      · have E1 := Lib.hid e1
        have E2 := Lib.hid e2
        clear e1 e2 HCS k62 f62
        go_wp2_with (first | (refine rwl_build0 built0_n11 ?_) | (refine rwl_store TN zeroNd w.heap.size HN6.out.n2 rfl rfl ?_))
        refine bodyPost_ret (rret TN rfl _ _ w.heap.size rfl rfl (gbx_set HN6.out.n2)) rfl ?_
        rw [E1.out, E2.out]
        exact ⟨rfl, below_row0 HN6.out.bel (Nat.le_refl _)⟩
      · have E1 := Lib.hid e1
        have E2 := Lib.hid e2
        have f60 := HN6.out.f 0
        have k60 := HN6.out.c0
        have X7 := Lib.hid (HN6.out.put0 mn)
        obtain ⟨W7, hW7⟩ : ∃ W, w6.setCell ⟨g6, 0, none⟩ (.int .i64 mn) = W := ⟨_, rfl⟩
        rw [hW7] at X7
        have HW7 := Lib.hid hW7
        clear e1 e2 HCS hW7 k62 f62
        go_wp2_with (first | (rw [HW7.out]) | ((with_reducible refine rwl_load TN g6 0 (gbx_rng X7.out.1) ?_ ?_ ?_); rfl; rfl) | (refine rwl_store TN ⟨mn, ws, max u 0⟩ w.heap.size X7.out.2.1 rfl rfl ?_))
        refine bodyPost_ret (rret TN rfl _ _ w.heap.size rfl rfl (gbx_set X7.out.2.1)) rfl ?_
        rw [E1.out, E2.out]
        exact ⟨rfl, below_row0 X7.out.2.2 (Nat.le_refl _)⟩
    case pos =>
      have hdk : decide ((k : Int) < n) = true := decide_eq_true (by omega)
      have hki : (k : Int) < (n : Int) := by omega
      obtain ⟨x, hx⟩ : ∃ x, l[k]? = some x := ⟨l[k]'(by have := HL.out; omega), List.getElem?_eq_getElem _⟩
      have hm := List.mem_of_getElem? hx
      have hb := HS.out.2 x hm
      have OK := Lib.hid (HK.out x hm)
      have HB := Lib.hid hb
      obtain ⟨bb, oo, rfl, rg⟩ := grd_rng (HR.out _ HN.out.bel) hx
      have RG : Hid (wr.rangeAt bb (oo + k * 29) (EK.cells x)) := Lib.hid rg
      have wb2 := sumW_bd (HS.out.take (k + 1))
      have ub2 := sumU_bd (HS.out.take (k + 1))
      have qb := qp_bd hb
      have bab := (stkB_iff.1 hb).2.2.1
      have mkb := mkK_bd hb
      have EL' : Hid (lgK (l.take (k + 1)) = lgK (l.take k) ++ [x.lg]) := Lib.hid (by rw [take_g hx]; simp [lgK])
      have EW : sumK wsK (l.take (k + 1)) = sumK wsK (l.take k) + wsK x := by rw [take_g hx, sumK_snoc]
      have EU : sumK mkK (l.take (k + 1)) = sumK mkK (l.take k) + mkK x := by rw [take_g hx, sumK_snoc]
      rw [EW] at wb2
      rw [EU] at ub2
      have EW' := Lib.hid EW
      have EU' := Lib.hid EU
      have ll : Hid ((lgK (l.take k)).length ≤ 16) := Lib.hid (by rw [lgK, List.length_map, List.length_take]; omega)
      clear EW EU rg
      obtain ⟨ms, hms⟩ : ∃ s, lgK (l.take k) = s := ⟨_, rfl⟩
      obtain ⟨a, ha⟩ : ∃ s, sumK wsK (l.take k) = s := ⟨_, rfl⟩
      obtain ⟨u, hu⟩ : ∃ s, sumK mkK (l.take k) = s := ⟨_, rfl⟩
      obtain ⟨ws, hws⟩ : ∃ s, wsK x = s := ⟨_, rfl⟩
      rw [hms, ha, hu] at HN
      rw [hms] at EL' ll
      rw [ha, hws] at EW' wb2
      rw [ha] at wb
      rw [hu] at EU' ub ub2
      have WO := Lib.hid fun (W : World) (hi : x.In W) => worst11 x W HB.out OK.out.lg hi
      rw [hws] at WO
      have MK : mkK x = x.ba - x.lg.q * x.pr := rfl
      rw [MK] at EU' ub2 mkb
      have IN := Lib.hid fun (W : World) (q : Below w.heap.size w W) => HI.out W q x hm
      have X1 := Lib.hid (gbx_new (E := EK) (te := 33) wr zeroSk)
      obtain ⟨W2, hW2⟩ : ∃ W2, (wr.alloc (.cells (EK.cells zeroSk).toArray 33)).setRow wr.heap.size (EK.cells x).toArray = W2 := ⟨_, rfl⟩
      have x2 : EK.Bx 33 W2 wr.heap.size x := by rw [← hW2]; exact gbx_set X1.out
      have b2 : Below wr.heap.size wr W2 := by rw [← hW2]; exact below_row0 (below_new _ _) (Nat.le_refl _)
      have N2 := Lib.hid (HN.out.below b2)
      have XX2 := Lib.hid x2
      have HW2 := Lib.hid hW2
      obtain ⟨gb, hgb⟩ : ∃ g, wr.heap.size = g := ⟨_, rfl⟩
      have HGB := Lib.hid hgb
      have NI := Lib.hid (not_in_own HN.out.own)
      have b4 := below_new W2 (.cells (EL.cells x.lg).toArray 30)
      have N4 := Lib.hid (N2.out.below b4)
      have XX4 := Lib.hid (gbx_below x2 b4)
      have OL := Lib.hid (gbx_rd (gbx_new (E := EL) (te := 30) W2 x.lg))
      have LG := Lib.hid (bk_lg x2)
      clear hms ha hu hws hx hm hb x2 b2 hW2 b4 hgb MK
      rw [HGB.out] at X1 XX2 XX4 LG NI HW2
      obtain ⟨z1, z2⟩ := wb
      obtain ⟨z3, z4⟩ := ub
      obtain ⟨z5, z6⟩ := wb2
      obtain ⟨z7, z8⟩ := ub2
      obtain ⟨z9, z10⟩ := qb
      obtain ⟨z11, z12⟩ := bab
      obtain ⟨z13, z14⟩ := mkb
      go_wp2_with (first | ((with_reducible refine gwl_load TK bb (oo + k * 29) RG.out ?_ ?_ ?_); rfl; rfl) | (refine gwl_store TK x gb X1.out rfl rfl ?_; rw [HW2.out]) | (rw [HGB.out]) | ((with_reducible refine gwl_load TL gb 0 LG.out ?_ ?_ ?_); rfl; rfl) | ((with_reducible refine wl_bs11 (x := x.lg) ?_ ?_); rfl) | (at_builtin; go_loud (refine gpl_app TL rfl _ _ rfl B _ ms rfl N4.out.own (some ⟨W2.heap.size, 0, none⟩) 1 1 [x.lg] rfl OL.out (fun e => (by cases e)) (by have := ll.out; omega) N4.out.sz ?_); intro v' w' h1 h2 h3))
      have N5 := Lib.hid (N4.out.app h1 h2)
      have GL : Hid (B ≤ gb) := Lib.hid (by have := HN.out.sz; have := HGB.out; omega)
      have XX5 : Hid (EK.Bx 33 w' gb x) := Lib.hid (((Fr.grown (S := fun k => _ = some k) h2 (fun k e => e)).at' gb (Array.getElem?_eq_some_iff.1 XX4.out).1 NI.out).trans XX4.out)
      have XF : Hid (∀ U, Fr (fun k => k = g6) w' U → EK.Bx 33 U gb x) := Lib.hid fun U hU => (hU.at' gb (Array.getElem?_eq_some_iff.1 XX5.out).1 (fun e => by have := GL.out; have := S6.out; omega)).trans XX5.out
      clear h1 h2 h3
      refine wp_region_held_drew (S := fun U => Fr (fun k => k = g6) w' U) (by kernel_rfl) ((Fr.refl _ _).drewN 1) (fun hH => ?_)
      have ND := Lib.hid (N5.out.below ((Below.refl w'.heap.size w').drew))
      have HH := Lib.hid hH
      refine wpAnyH_take (i := 0) (v := .pointer (some ⟨g6, 1, none⟩)) rfl (by kernel_rfl) (by kernel_rfl) (by kernel_rfl) (fun _ _ _ h => h) (.inl ⟨by rfl, ?_⟩) (by assumption) ?_
      · intro W hW; go_simp
      try simp only [List.getElem_toArray, List.getElem_cons_zero, Act.put, List.setIfInBounds_toArray, List.set_cons_zero, List.set_cons_succ]
      refine wpAnyH_take (i := 2) (v := .agg (EK.cells x).toArray) rfl (by kernel_rfl) (by kernel_rfl) (by kernel_rfl) (fun _ _ _ h => h) (gyields_load TK (by rfl) (.tmp 8) rfl gb 0 rfl (fun U hU => bk_rng (XF.out U hU))) (by assumption) ?_
      try simp only [List.getElem_toArray, List.getElem_cons_zero, List.getElem_cons_succ, Act.put, List.setIfInBounds_toArray, List.set_cons_zero, List.set_cons_succ]
      refine wpAnyH_ready (rs := [1, 3]) (by decide +kernel) (by simp) (AllReadyH.cons rfl (fun KQ hK => ?_) (AllReadyH.cons rfl (fun KQ hK => ?_) AllReadyH.nil))
      · have k61 := ND.out.c1
        go_simp
        refine hK.out _ _ HH.out (fun _ => ?_)
        clear hK k61
        try simp only [List.setIfInBounds_toArray, List.set_cons_zero, List.set_cons_succ]
        refine wpAnyH_ready (rs := [3]) (by decide +kernel) (by simp) (AllReadyH.cons rfl (fun KQ hK => ?_) AllReadyH.nil)
        go_simp
        refine (WO.out _ (IN.out _ ND.out.bel)).mono ?_; rintro e0 V1 ⟨rfl, q1⟩
        have HV := Lib.hid (HH.out.same (Fr.below (S := fun k => k = g6) q1))
        have NV := Lib.hid (ND.out.below q1)
        refine hK.out _ _ HV.out (fun _ => ?_)
        clear hK q1
        try simp only [List.setIfInBounds_toArray, List.set_cons_zero, List.set_cons_succ]
        refine wpAnyH_take (i := 4) (v := .int .i64 (a + ws)) rfl (by kernel_rfl) (by kernel_rfl) (by kernel_rfl) (fun _ _ _ h => h) (.inl ⟨by rfl, ?_⟩) (by assumption) ?_
        · intro W hW; go_simp; rw [IntKind.wrap_i64]; omega
        try simp only [List.getElem_toArray, List.getElem_cons_zero, List.getElem_cons_succ, Act.put, List.setIfInBounds_toArray, List.set_cons_zero, List.set_cons_succ]
        refine wpAnyH_take (i := 5) (v := .pointer (some ⟨g6, 1, none⟩)) rfl (by kernel_rfl) (by kernel_rfl) (by kernel_rfl) (fun _ _ _ h => h) (.inl ⟨by rfl, ?_⟩) (by assumption) ?_
        · intro W hW; go_simp
        try simp only [List.getElem_toArray, List.getElem_cons_zero, List.getElem_cons_succ, Act.put, List.setIfInBounds_toArray, List.set_cons_zero, List.set_cons_succ]
        have k61 := NV.out.c1
        have f61 := NV.out.f 1
        refine wpAnyH_ready (rs := [6]) (by decide +kernel) (by simp) (AllReadyH.cons rfl (fun KQ hK => ?_) AllReadyH.nil)
        go_simp
        have N6 := Lib.hid (NV.out.put1 (a + ws))
        have F6 := Lib.hid (HV.out.same (Fr.set (S := fun k => k = g6) (p := ⟨g6, 1, none⟩) rfl (.int .i64 (a + ws))))
        obtain ⟨V2, hV2⟩ : ∃ V2, V1.setCell ⟨g6, 1, none⟩ (.int .i64 (a + ws)) = V2 := ⟨_, rfl⟩
        rw [hV2] at N6 F6
        rw [hV2]
        refine hK.out _ _ F6.out (fun _ => ?_)
        clear hK k61 f61 hV2
        try simp only [List.setIfInBounds_toArray, List.set_cons_zero, List.set_cons_succ]
        refine wpAnyH_done (by decide +kernel) ?_ _
        have XX6 := Lib.hid (XF.out _ F6.out)
        have k62 := N6.out.c2
        have f62 := N6.out.f 2
        have q25 := bk_q XX6.out
        have q26 := bk_ba XX6.out
        have q27 := bk_pr XX6.out
        have N7 := Lib.hid (N6.out.put2 (u + (x.ba - x.lg.q * x.pr)))
        go_wp2_with fail
        go_roundw
        case rel => exact ⟨k + 1, hlt, by go_num, by rw [EL'.out, EW'.out, EU'.out]; exact N7.out⟩
        case measure => simp [intOf]; omega
      · go_simp
        refine (WO.out _ (IN.out _ ND.out.bel)).mono ?_; rintro e0 V1 ⟨rfl, q1⟩
        have HV := Lib.hid (HH.out.same (Fr.below (S := fun k => k = g6) q1))
        have NV := Lib.hid (ND.out.below q1)
        refine hK.out _ _ HV.out (fun _ => ?_)
        clear hK q1
        try simp only [List.setIfInBounds_toArray, List.set_cons_zero, List.set_cons_succ]
        have k61 := NV.out.c1
        refine wpAnyH_ready (rs := [1]) (by decide +kernel) (by simp) (AllReadyH.cons rfl (fun KQ hK => ?_) AllReadyH.nil)
        go_simp
        refine hK.out _ _ HV.out (fun _ => ?_)
        clear hK k61
        try simp only [List.setIfInBounds_toArray, List.set_cons_zero, List.set_cons_succ]
        refine wpAnyH_take (i := 4) (v := .int .i64 (a + ws)) rfl (by kernel_rfl) (by kernel_rfl) (by kernel_rfl) (fun _ _ _ h => h) (.inl ⟨by rfl, ?_⟩) (by assumption) ?_
        · intro W hW; go_simp; rw [IntKind.wrap_i64]; omega
        try simp only [List.getElem_toArray, List.getElem_cons_zero, List.getElem_cons_succ, Act.put, List.setIfInBounds_toArray, List.set_cons_zero, List.set_cons_succ]
        refine wpAnyH_take (i := 5) (v := .pointer (some ⟨g6, 1, none⟩)) rfl (by kernel_rfl) (by kernel_rfl) (by kernel_rfl) (fun _ _ _ h => h) (.inl ⟨by rfl, ?_⟩) (by assumption) ?_
        · intro W hW; go_simp
        try simp only [List.getElem_toArray, List.getElem_cons_zero, List.getElem_cons_succ, Act.put, List.setIfInBounds_toArray, List.set_cons_zero, List.set_cons_succ]
        have k61 := NV.out.c1
        have f61 := NV.out.f 1
        refine wpAnyH_ready (rs := [6]) (by decide +kernel) (by simp) (AllReadyH.cons rfl (fun KQ hK => ?_) AllReadyH.nil)
        go_simp
        have N6 := Lib.hid (NV.out.put1 (a + ws))
        have F6 := Lib.hid (HV.out.same (Fr.set (S := fun k => k = g6) (p := ⟨g6, 1, none⟩) rfl (.int .i64 (a + ws))))
        obtain ⟨V2, hV2⟩ : ∃ V2, V1.setCell ⟨g6, 1, none⟩ (.int .i64 (a + ws)) = V2 := ⟨_, rfl⟩
        rw [hV2] at N6 F6
        rw [hV2]
        refine hK.out _ _ F6.out (fun _ => ?_)
        clear hK k61 f61 hV2
        try simp only [List.setIfInBounds_toArray, List.set_cons_zero, List.set_cons_succ]
        refine wpAnyH_done (by decide +kernel) ?_ _
        have XX6 := Lib.hid (XF.out _ F6.out)
        have k62 := N6.out.c2
        have f62 := N6.out.f 2
        have q25 := bk_q XX6.out
        have q26 := bk_ba XX6.out
        have q27 := bk_pr XX6.out
        have N7 := Lib.hid (N6.out.put2 (u + (x.ba - x.lg.q * x.pr)))
        go_wp2_with fail
        go_roundw
        case rel => exact ⟨k + 1, hlt, by go_num, by rw [EL'.out, EW'.out, EU'.out]; exact N7.out⟩
        case measure => simp [intOf]; omega
theorem need11 (A : Option Addr) (n c : Nat) (l : List Sk) (w : World) (h : EK.Rd w A n l) (hok : ∀ x, x ∈ l → x.ok ∧ x.In w) (hn : n ≤ maxLen) :
    Calls Try.prog 10 #[.slice A n c] w fun e w' => e = .returned (.tuple #[.agg (EN.cells (neN l)).toArray, .int .i64 (neE l)]) ∧ Below w.heap.size w w' := by
  rcases neE_cases l with ⟨h1, h2, h3⟩ | ⟨h1, h2, h3, h4⟩ | ⟨h1, _⟩ | ⟨h1, _⟩
  · rw [h2, h3]
    exact need_long A n c l w h hn h1
  · rw [h3, h4]
    exact need_arg A n c l w h hok h1 h2
  · exact need_ok A n c l w h hok h1
  · exact need_ok A n c l w h hok h1
end Go.Proofs.Ytcpcnjiphiokjaa
