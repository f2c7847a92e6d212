/- What stakes need: the document's (by genExh.py). -/
import Derived.Test.YtcpcnjiphiokjaaExf
import Derived.Test.YtcpcnjiphiokjaaExg
import Derived.Test.YtcpcnjiphiokjaaTh
namespace Go.Proofs.Ytcpcnjiphiokjaa
open Go.RowKit Go.Shelf
set_option linter.unusedVariables false
set_option linter.unusedSimpArgs false

set_option maxRecDepth 100000 in
set_option maxHeartbeats 1000000 in
theorem rneed_long (A : Option Addr) (n c : Nat) (l : List Sk) (w : World) (h : EK.Rd w A n l) (hn : n ≤ maxLen) (hl : 16 < l.length) :
    Calls Try.prog 11 #[.slice A n c] w fun e w' => e = .returned (.tuple #[.agg (EN.cells zeroNd).toArray, .int .i64 3]) ∧ Below w.heap.size w w' := by
  have hz := zero_n11
  have d := h.1
  unfold maxLen at hn
  have c1 : decide ((16 : Int) < (n : Int)) = true := decide_eq_true (by omega)
  obtain ⟨W1, hW1⟩ : ∃ W1, w.alloc (.cells (EN.cells zeroNd).toArray 35) = W1 := ⟨_, rfl⟩
  have x1 : EN.Bx 35 W1 w.heap.size zeroNd := by rw [← hW1]; exact gbx_new w _
  have B1 := Lib.hid (show Below w.heap.size w W1 by rw [← hW1]; exact below_new w _)
  have X1 := Lib.hid x1
  have HW := Lib.hid hW1
  clear x1 hW1 h d hl
  go_enter Try.func11, Try.ntmps11
  go_wp2_with (first | (rw [HW.out]) | (refine rwl_build0 built0_n11 ?_) | (refine rwl_store TN zeroNd w.heap.size X1.out rfl rfl ?_))
  exact bodyPost_ret (rret TN rfl _ _ w.heap.size rfl rfl (gbx_set X1.out)) rfl ⟨rfl, below_row0 B1.out (Nat.le_refl _)⟩
set_option maxRecDepth 100000 in
set_option maxHeartbeats 8000000 in
theorem rneed_loop (A : Option Addr) (n c : Nat) (l : List Sk) (w : World) (h : EK.Rd w A n l) (hok : ∀ x, x ∈ l → x.ok ∧ x.In w) (hl : l.length ≤ 16) :
    Calls Try.prog 11 #[.slice A n c] w fun e w' => e = .returned (.tuple #[.agg (EN.cells (neN l)).toArray, .int .i64 (neE l)]) ∧ Below w.heap.size w w' := by
  have hz := zero_n11
  have d := h.1
  have hn : n ≤ 16 := by omega
  have c1 : decide ((16 : Int) < (n : Int)) = false := decide_eq_false (by omega)
  obtain ⟨W1, hW1⟩ : ∃ W1, w.alloc (.cells (EN.cells zeroNd).toArray 35) = W1 := ⟨_, rfl⟩
  have x1 : EN.Bx 35 W1 w.heap.size zeroNd := by rw [← hW1]; exact gbx_new w _
  have b1 : Below w.heap.size w W1 := by rw [← hW1]; exact below_new w _
  have l1 : w.heap.size < W1.heap.size := (Array.getElem?_eq_some_iff.1 x1).1
  have HR := Lib.hid fun (W : World) (q : Below w.heap.size w W) => (show EK.Rd W A n l from grd_below h q (Nat.le_refl _))
  have HI := Lib.hid fun (W : World) (q : Below w.heap.size w W) (x : Sk) (hx : x ∈ l) => (show x.In W from grd_below (hok x hx).2 q (Nat.le_refl _))
  have HK := Lib.hid fun x hx => (hok x hx).1
  have HL := Lib.hid d
  have HW := Lib.hid hW1
  obtain ⟨g6, hg6⟩ : ∃ g, W1.heap.size = g := ⟨_, rfl⟩
  obtain ⟨W3, hW3⟩ : ∃ W3, W1.alloc (.cells (EN.cells zeroNd).toArray 35) = W3 := ⟨_, rfl⟩
  obtain ⟨B, hB⟩ : ∃ B, W3.heap.size = B := ⟨_, rfl⟩
  have x3 : EN.Bx 35 W3 W1.heap.size zeroNd := by rw [← hW3]; exact gbx_new W1 _
  have b3 : Below W1.heap.size W1 W3 := by rw [← hW3]; exact below_new W1 _
  have s6 : g6 < B := by rw [← hg6, ← hB]; exact (Array.getElem?_eq_some_iff.1 x3).1
  have s2 : w.heap.size < g6 := by omega
  have N0 : Nl w B w.heap.size g6 (.slice none 0 0) [] 0 0 W3 := ⟨gown_nil _ _, by rw [← hg6]; exact x3, gbx_below x1 b3, b1.trans (b3.mono (by omega)), by omega, by omega, s2, s6⟩
  have HN0 := Lib.hid N0
  have HW3 := Lib.hid hW3
  have HBB := Lib.hid hB
  have S6 := Lib.hid s6
  have S2 := Lib.hid s2
  have LEN := Lib.hid hl
  clear x1 hW1 h d hok b1 l1 x3 b3 N0 hW3 s6 s2 hB hl
  go_enter Try.func11, Try.ntmps11
  go_wp2_with (first | (rw [HW.out]) | (rw [HW3.out]))
  clear hg6
  go_loopw [4, 6] (fun L i wr => ∃ k : Nat, k ≤ n ∧ i = .int .i64 k ∧ StksB (l.take k) ∧ Nl w B w.heap.size g6 L (lgK (l.take k)) (sumK wsK (l.take k)) (sumK mkK (l.take k)) wr) (fun _ i _ => n - (intOf i).toNat)
  case atStart => exact ⟨0, Nat.zero_le _, rfl, ⟨Nat.zero_le _, fun x hx => by cases hx⟩, HN0.out⟩
  case round =>
    obtain ⟨k, hk, rfl, hs, hN⟩ := hrel
    have HN := Lib.hid hN
    have HS := Lib.hid hs
    have wb := sumW_bd hs
    have ub := sumU_bd hs
    clear hN hs
    by_cases hlt : k < n
    case neg =>
      obtain rfl : k = n := by omega
      have T : Hid (l.take k = l) := Lib.hid (List.take_of_length_le (by rw [HL.out]; exact Nat.le_refl _))
      rw [T.out] at HN HS wb ub
      obtain ⟨b1, b2⟩ := ub
      obtain ⟨A5, c5, rfl, h05⟩ := gown_form HN.out.own
      have ML := Lib.hid (neE_cases l)
      have M6 := Lib.hid (rmargin10 A5 (lgK l).length c5 (lgK l) wr (gown_rd HN.out.own) (fun y hy => by
        obtain ⟨z, hz, rfl⟩ := List.mem_map.1 hy
        exact (HK.out z hz).lg) (by rw [lgK, List.length_map, HL.out]; unfold maxLen; omega))
      obtain ⟨u, hu⟩ : ∃ u, sumK mkK l = u := ⟨_, rfl⟩
      obtain ⟨ws, hws⟩ : ∃ u, sumK wsK l = u := ⟨_, rfl⟩
      have HCS := Lib.hid (show (marE (lgK l) = 8 ∧ neE l = 8 ∧ neN l = zeroNd) ∨ (marE (lgK l) = 0 ∧ neE l = 0 ∧ neN l = ⟨marN (lgK l), ws, max u 0⟩) by
        rcases ML.out with c | c | c | c
        · have := HS.out.1; omega
        · have := List.all_eq_true.2 HS.out.2; rw [this] at c; cases c.2.1
        · exact .inl c.2
        · rw [hu, hws] at c; exact .inr c.2)
      rw [hu] at b1 b2
      rw [hu, hws] at HN
      obtain ⟨me, hme⟩ : ∃ e, marE (lgK l) = e := ⟨_, rfl⟩
      obtain ⟨mn, hmn⟩ : ∃ e, marN (lgK l) = e := ⟨_, rfl⟩
      rw [hme, hmn] at HCS M6
      clear hu hws hme hmn ML T wb
      go_wp2_with fail
      refine M6.out.mono ?_; rintro e w6 ⟨rfl, q6⟩
      have HN6 := Lib.hid (HN.out.below q6)
      clear q6
      rcases HCS.out with ⟨rfl, e1, e2⟩ | ⟨rfl, e1, e2⟩
      · have E1 := Lib.hid e1
        have E2 := Lib.hid e2
        clear e1 e2 HCS
        go_wp2_with (first | (refine rwl_build0 built0_n11 ?_) | (refine rwl_store TN zeroNd w.heap.size HN6.out.n2 rfl rfl ?_))
        refine bodyPost_ret (rret TN rfl _ _ w.heap.size rfl rfl (gbx_set HN6.out.n2)) rfl ?_
        rw [E1.out, E2.out]
        exact ⟨rfl, below_row0 HN6.out.bel (Nat.le_refl _)⟩
      · have E1 := Lib.hid e1
        have f60 := HN6.out.f 0
        have k60 := HN6.out.c0
        have X7 := Lib.hid (HN6.out.put0 mn)
        obtain ⟨W7, hW7⟩ : ∃ W, w6.setCell ⟨g6, 0, none⟩ (.int .i64 mn) = W := ⟨_, rfl⟩
        rw [hW7] at X7
        have HW7 := Lib.hid hW7
        have k72 : W7.cell? ⟨g6, 2, none⟩ = some (.int .i64 u) := gbx_cell X7.out.1 2
        have f72 := gbx_fz X7.out.1 2
        by_cases cu : u < 0
        · have du : decide (u < 0) = true := decide_eq_true cu
          have E2 : Hid (neN l = ⟨mn, ws, 0⟩) := Lib.hid (by rw [e2]; congr 1; omega)
          have X8 : Hid (EN.Bx 35 (W7.setCell ⟨g6, 2, none⟩ (.int .i64 0)) g6 ⟨mn, ws, 0⟩ ∧ EN.Bx 35 (W7.setCell ⟨g6, 2, none⟩ (.int .i64 0)) w.heap.size zeroNd ∧ Below w.heap.size w (W7.setCell ⟨g6, 2, none⟩ (.int .i64 0))) := Lib.hid ⟨gbx_put X7.out.1 rfl, (heap_setCell_other W7 ⟨g6, 2, none⟩ w.heap.size _ (fun e => by have := S2.out; simp at e; omega)).trans X7.out.2.1, X7.out.2.2.setCell (by have := S2.out; show _ ≤ g6; omega) _⟩
          obtain ⟨W8, hW8⟩ : ∃ W, W7.setCell ⟨g6, 2, none⟩ (.int .i64 0) = W := ⟨_, rfl⟩
          rw [hW8] at X8
          have HW8 := Lib.hid hW8
          clear e1 e2 HCS hW7 hW8
          go_wp2_with (first | (rw [HW7.out]) | (rw [HW8.out]) | ((with_reducible refine rwl_load TN g6 0 (gbx_rng X8.out.1) ?_ ?_ ?_); rfl; rfl) | (refine rwl_store TN ⟨mn, ws, 0⟩ w.heap.size X8.out.2.1 rfl rfl ?_))
          refine bodyPost_ret (rret TN rfl _ _ w.heap.size rfl rfl (gbx_set X8.out.2.1)) rfl ?_
          rw [E1.out, E2.out]
          exact ⟨rfl, below_row0 X8.out.2.2 (Nat.le_refl _)⟩
        · have du : decide (u < 0) = false := decide_eq_false cu
          have E2 : Hid (neN l = ⟨mn, ws, u⟩) := Lib.hid (by rw [e2]; congr 1; omega)
          clear e1 e2 HCS hW7
          go_wp2_with (first | (rw [HW7.out]) | ((with_reducible refine rwl_load TN g6 0 (gbx_rng X7.out.1) ?_ ?_ ?_); rfl; rfl) | (refine rwl_store TN ⟨mn, ws, u⟩ w.heap.size X7.out.2.1 rfl rfl ?_))
          refine bodyPost_ret (rret TN rfl _ _ w.heap.size rfl rfl (gbx_set X7.out.2.1)) rfl ?_
          rw [E1.out, E2.out]
          exact ⟨rfl, below_row0 X7.out.2.2 (Nat.le_refl _)⟩
    case pos =>
      have hdk : decide ((k : Int) < n) = true := decide_eq_true (by omega)
      have hki : (k : Int) < (n : Int) := by omega
      obtain ⟨x, hx⟩ : ∃ x, l[k]? = some x := ⟨l[k]'(by have := HL.out; omega), List.getElem?_eq_getElem _⟩
      have hm := List.mem_of_getElem? hx
      have OK := Lib.hid (HK.out x hm)
      have IN := Lib.hid fun (W : World) (q : Below w.heap.size w W) => HI.out W q x hm
      obtain ⟨bb, oo, rfl, rg⟩ := grd_rng (HR.out _ HN.out.bel) hx
      have RG : Hid (∀ W, Below w.heap.size w W → W.rangeAt bb (oo + k * 29) (EK.cells x)) := Lib.hid fun W q => by
        obtain ⟨b', o', e, r⟩ := grd_rng (HR.out W q) hx
        cases e
        exact r
      have RG1 := Lib.hid (RG.out wr HN.out.bel)
      have MY := Lib.hid (rmay11 x wr OK.out (IN.out wr HN.out.bel))
      clear rg
      cases hb : stkB x
      · have E : Hid (neE l = 2 ∧ neN l = zeroNd) := Lib.hid (by
          have ha : l.all stkB = false := List.all_eq_false.2 ⟨x, hm, by rw [hb]; decide⟩
          rcases neE_cases l with c | c | c | c
          · have := LEN.out; omega
          · exact c.2.2
          · rw [List.all_eq_true.2 c.1.2] at ha; cases ha
          · rw [List.all_eq_true.2 c.1.2] at ha; cases ha)
        rw [hb] at MY
        clear hx hm hb
        go_wp2_with ((with_reducible refine gwl_load TK bb (oo + k * 29) RG1.out ?_ ?_ ?_); rfl; rfl)
        refine MY.out.mono ?_; rintro e w6 ⟨rfl, q6⟩
        have HN6 := Lib.hid (HN.out.below q6)
        clear q6
        go_wp2_with (first | (refine rwl_build0 built0_n11 ?_) | (refine rwl_store TN zeroNd w.heap.size HN6.out.n2 rfl rfl ?_))
        refine bodyPost_ret (rret TN rfl _ _ w.heap.size rfl rfl (gbx_set HN6.out.n2)) rfl ?_
        rw [E.out.1, E.out.2]
        exact ⟨rfl, below_row0 HN6.out.bel (Nat.le_refl _)⟩
      rw [hb] at MY
      have HB := Lib.hid hb
      have SK1 : Hid (StksB (l.take (k + 1))) := Lib.hid ⟨by rw [List.length_take]; have := LEN.out; omega, fun y hy => by
        rw [take_g hx] at hy
        rcases List.mem_append.1 hy with h | h
        · exact HS.out.2 y h
        · rw [List.mem_singleton.1 h]; exact hb⟩
      have wb2 := sumW_bd SK1.out
      have ub2 := sumU_bd SK1.out
      have qb := qp_bd hb
      have bab := (stkB_iff.1 hb).2.2.1
      have mkb := mkK_bd hb
      have EL' : Hid (lgK (l.take (k + 1)) = lgK (l.take k) ++ [x.lg]) := Lib.hid (by rw [take_g hx]; simp [lgK])
      have EW : sumK wsK (l.take (k + 1)) = sumK wsK (l.take k) + wsK x := by rw [take_g hx, sumK_snoc]
      have EU : sumK mkK (l.take (k + 1)) = sumK mkK (l.take k) + mkK x := by rw [take_g hx, sumK_snoc]
      rw [EW] at wb2
      rw [EU] at ub2
      have EW' := Lib.hid EW
      have EU' := Lib.hid EU
      have ll : Hid ((lgK (l.take k)).length ≤ 16) := Lib.hid (by rw [lgK, List.length_map, List.length_take]; omega)
      clear EW EU
      obtain ⟨ms, hms⟩ : ∃ s, lgK (l.take k) = s := ⟨_, rfl⟩
      obtain ⟨a, ha⟩ : ∃ s, sumK wsK (l.take k) = s := ⟨_, rfl⟩
      obtain ⟨u, hu⟩ : ∃ s, sumK mkK (l.take k) = s := ⟨_, rfl⟩
      obtain ⟨ws, hws⟩ : ∃ s, wsK x = s := ⟨_, rfl⟩
      rw [hms, ha, hu] at HN
      rw [hms] at EL' ll
      rw [ha, hws] at EW' wb2
      rw [ha] at wb
      rw [hu] at EU' ub ub2
      have WO := Lib.hid fun (W : World) (hi : x.In W) => rworst11 x W HB.out hi
      rw [hws] at WO
      have MK : mkK x = x.ba - x.lg.q * x.pr := rfl
      rw [MK] at EU' ub2 mkb
      clear hms ha hu hws hx hm hb MK
      obtain ⟨z1, z2⟩ := wb
      obtain ⟨z3, z4⟩ := ub
      obtain ⟨z5, z6⟩ := wb2
      obtain ⟨z7, z8⟩ := ub2
      obtain ⟨z9, z10⟩ := qb
      obtain ⟨z11, z12⟩ := bab
      obtain ⟨z13, z14⟩ := mkb
      go_wp2_with ((with_reducible refine gwl_load TK bb (oo + k * 29) RG1.out ?_ ?_ ?_); rfl; rfl)
      refine MY.out.mono ?_; rintro e w6 ⟨rfl, q6⟩
      have N6 := Lib.hid (HN.out.below q6)
      clear q6
      have LG := Lib.hid (kq_lg (RG.out w6 N6.out.bel))
      have b7 := below_new w6 (.cells (EL.cells x.lg).toArray 30)
      have N7 := Lib.hid (N6.out.below b7)
      have OL := Lib.hid (gbx_rd (gbx_new (E := EL) (te := 30) w6 x.lg))
      clear b7
      go_wp2_with (first | ((with_reducible refine gwl_load TL bb (oo + k * 29) LG.out ?_ ?_ ?_); rfl; rfl) | ((with_reducible refine wl_bs11 (x := x.lg) ?_ ?_); rfl) | (at_builtin; go_loud (refine gpl_app TL rfl _ _ rfl B _ ms rfl N7.out.own (some ⟨w6.heap.size, 0, none⟩) 1 1 [x.lg] rfl OL.out (fun e => (by cases e)) (by have := ll.out; omega) N7.out.sz ?_); intro v' w' h1 h2 h3))
      have N8 := Lib.hid (N7.out.app h1 h2)
      clear h1 h2 h3
      refine wp_region_held_drew (S := fun U => Fr (fun k => k = g6) w' U) (by kernel_rfl) ((Fr.refl _ _).drewN 1) (fun hH => ?_)
      have ND := Lib.hid (N8.out.below ((Below.refl w'.heap.size w').drew))
      have HH := Lib.hid hH
      have SB : Hid (∀ U, Fr (fun k => k = g6) w' U → Below w.heap.size w U) := Lib.hid fun U hU => ⟨hU.b0.os.trans N8.out.bel.os, hU.b0.tape.trans N8.out.bel.tape, hU.b0.output.trans N8.out.bel.output, Nat.le_trans N8.out.bel.size hU.b0.size, fun i hi => (hU.at' i (Nat.lt_of_lt_of_le hi N8.out.bel.size) (fun e => by have := S2.out; omega)).trans (N8.out.bel.block i hi)⟩
      refine wpAnyH_take (i := 0) (v := .pointer (some ⟨g6, 1, none⟩)) rfl (by kernel_rfl) (by kernel_rfl) (by kernel_rfl) (fun _ _ _ h => h) (.inl ⟨by rfl, ?_⟩) (by assumption) ?_
      · intro W hW; go_simp
      try simp only [List.getElem_toArray, List.getElem_cons_zero, Act.put, List.setIfInBounds_toArray, List.set_cons_zero, List.set_cons_succ]
      refine wpAnyH_take (i := 2) (v := .slice (some ⟨bb, oo, none⟩) n c) rfl (by kernel_rfl) (by kernel_rfl) (by kernel_rfl) (fun _ _ _ h => h) (.inl ⟨by rfl, ?_⟩) (by assumption) ?_
      · intro W hW; go_simp
      try simp only [List.getElem_toArray, List.getElem_cons_zero, List.getElem_cons_succ, Act.put, List.setIfInBounds_toArray, List.set_cons_zero, List.set_cons_succ]
      refine wpAnyH_take (i := 3) (v := .int .i64 k) rfl (by kernel_rfl) (by kernel_rfl) (by kernel_rfl) (fun _ _ _ h => h) (.inl ⟨by rfl, ?_⟩) (by assumption) ?_
      · intro W hW; go_simp
      try simp only [List.getElem_toArray, List.getElem_cons_zero, List.getElem_cons_succ, Act.put, List.setIfInBounds_toArray, List.set_cons_zero, List.set_cons_succ]
      refine wpAnyH_take (i := 4) (v := .pointer (some ⟨bb, oo + k * 29, none⟩)) rfl (by kernel_rfl) (by kernel_rfl) (by kernel_rfl) (fun _ _ _ h => h) (.inl ⟨by rfl, ?_⟩) (by assumption) ?_
      · intro W hW; go_simp
      try simp only [List.getElem_toArray, List.getElem_cons_zero, List.getElem_cons_succ, Act.put, List.setIfInBounds_toArray, List.set_cons_zero, List.set_cons_succ]
      refine wpAnyH_take (i := 5) (v := .agg (EK.cells x).toArray) rfl (by kernel_rfl) (by kernel_rfl) (by kernel_rfl) (fun _ _ _ h => h) (gyields_load TK (by rfl) (.tmp 38) rfl bb (oo + k * 29) rfl (fun U hU => RG.out U (SB.out U hU))) (by assumption) ?_
      try simp only [List.getElem_toArray, List.getElem_cons_zero, List.getElem_cons_succ, Act.put, List.setIfInBounds_toArray, List.set_cons_zero, List.set_cons_succ]
      refine wpAnyH_ready (rs := [1, 6]) (by decide +kernel) (by simp) (AllReadyH.cons rfl (fun KQ hK => ?_) (AllReadyH.cons rfl (fun KQ hK => ?_) AllReadyH.nil))
      · have k61 := ND.out.c1
        go_simp
        refine hK.out _ _ HH.out (fun _ => ?_)
        clear hK k61
        try simp only [List.setIfInBounds_toArray, List.set_cons_zero, List.set_cons_succ]
        refine wpAnyH_ready (rs := [6]) (by decide +kernel) (by simp) (AllReadyH.cons rfl (fun KQ hK => ?_) AllReadyH.nil)
        go_simp
        refine (WO.out _ (IN.out _ ND.out.bel)).mono ?_; rintro e0 V1 ⟨rfl, q1⟩
        have HV := Lib.hid (HH.out.same (Fr.below (S := fun k => k = g6) q1))
        have NV := Lib.hid (ND.out.below q1)
        refine hK.out _ _ HV.out (fun _ => ?_)
        clear hK q1
        try simp only [List.setIfInBounds_toArray, List.set_cons_zero, List.set_cons_succ]
        refine wpAnyH_take (i := 7) (v := .int .i64 (a + ws)) rfl (by kernel_rfl) (by kernel_rfl) (by kernel_rfl) (fun _ _ _ h => h) (.inl ⟨by rfl, ?_⟩) (by assumption) ?_
        · intro W hW; go_simp; rw [IntKind.wrap_i64]; omega
        try simp only [List.getElem_toArray, List.getElem_cons_zero, List.getElem_cons_succ, Act.put, List.setIfInBounds_toArray, List.set_cons_zero, List.set_cons_succ]
        refine wpAnyH_take (i := 8) (v := .pointer (some ⟨g6, 1, none⟩)) rfl (by kernel_rfl) (by kernel_rfl) (by kernel_rfl) (fun _ _ _ h => h) (.inl ⟨by rfl, ?_⟩) (by assumption) ?_
        · intro W hW; go_simp
        try simp only [List.getElem_toArray, List.getElem_cons_zero, List.getElem_cons_succ, Act.put, List.setIfInBounds_toArray, List.set_cons_zero, List.set_cons_succ]
        have k61 := NV.out.c1
        have f61 := NV.out.f 1
        refine wpAnyH_ready (rs := [9]) (by decide +kernel) (by simp) (AllReadyH.cons rfl (fun KQ hK => ?_) AllReadyH.nil)
        go_simp
        have P6 := Lib.hid (NV.out.put1 (a + ws))
        have F6 := Lib.hid (HV.out.same (Fr.set (S := fun k => k = g6) (p := ⟨g6, 1, none⟩) rfl (.int .i64 (a + ws))))
        obtain ⟨V2, hV2⟩ : ∃ V2, V1.setCell ⟨g6, 1, none⟩ (.int .i64 (a + ws)) = V2 := ⟨_, rfl⟩
        rw [hV2] at P6 F6
        rw [hV2]
        refine hK.out _ _ F6.out (fun _ => ?_)
        clear hK k61 f61 hV2
        try simp only [List.setIfInBounds_toArray, List.set_cons_zero, List.set_cons_succ]
        refine wpAnyH_done (by decide +kernel) ?_ _
        go_wp2_with fail
        refine wp_region_held_drew (S := fun U => Fr (fun k => k = g6) V2 U) (by kernel_rfl) ((Fr.refl _ _).drewN 1) (fun hH => ?_)
        have ND2 := Lib.hid (P6.out.below ((Below.refl V2.heap.size V2).drew))
        have HH2 := Lib.hid hH
        have SB2 : Hid (∀ U, Fr (fun k => k = g6) V2 U → U.rangeAt bb (oo + k * 29) (EK.cells x)) := Lib.hid fun U hU => RG.out U (SB.out U (F6.out.same hU))
        have CQ : Hid (∀ U, Fr (fun k => k = g6) V2 U → U.cell? ⟨bb, oo + k * 29 + 25, none⟩ = some (.int .i64 x.lg.q)) := Lib.hid fun U hU => rq_q (kq_lg (SB2.out U hU))
        have CB : Hid (∀ U, Fr (fun k => k = g6) V2 U → U.cell? ⟨bb, oo + k * 29 + 26, none⟩ = some (.int .i64 x.ba)) := Lib.hid fun U hU => kq_at (SB2.out U hU) (sk_ba x)
        have CP : Hid (∀ U, Fr (fun k => k = g6) V2 U → U.cell? ⟨bb, oo + k * 29 + 27, none⟩ = some (.int .i64 x.pr)) := Lib.hid fun U hU => kq_at (SB2.out U hU) (sk_pr x)
        refine wpAnyH_take (i := 0) (v := .pointer (some ⟨g6, 2, none⟩)) rfl (by kernel_rfl) (by kernel_rfl) (by kernel_rfl) (fun _ _ _ h => h) (.inl ⟨by rfl, ?_⟩) (by assumption) ?_
        · intro W hW; go_simp
        try simp only [List.getElem_toArray, List.getElem_cons_zero, Act.put, List.setIfInBounds_toArray, List.set_cons_zero, List.set_cons_succ]
        refine wpAnyH_take (i := 2) (v := .slice (some ⟨bb, oo, none⟩) n c) rfl (by kernel_rfl) (by kernel_rfl) (by kernel_rfl) (fun _ _ _ h => h) (.inl ⟨by rfl, ?_⟩) (by assumption) ?_
        · intro W hW; go_simp
        try simp only [List.getElem_toArray, List.getElem_cons_zero, List.getElem_cons_succ, Act.put, List.setIfInBounds_toArray, List.set_cons_zero, List.set_cons_succ]
        refine wpAnyH_take (i := 3) (v := .int .i64 k) rfl (by kernel_rfl) (by kernel_rfl) (by kernel_rfl) (fun _ _ _ h => h) (.inl ⟨by rfl, ?_⟩) (by assumption) ?_
        · intro W hW; go_simp
        try simp only [List.getElem_toArray, List.getElem_cons_zero, List.getElem_cons_succ, Act.put, List.setIfInBounds_toArray, List.set_cons_zero, List.set_cons_succ]
        refine wpAnyH_take (i := 4) (v := .pointer (some ⟨bb, oo + k * 29, none⟩)) rfl (by kernel_rfl) (by kernel_rfl) (by kernel_rfl) (fun _ _ _ h => h) (.inl ⟨by rfl, ?_⟩) (by assumption) ?_
        · intro W hW; go_simp
        try simp only [List.getElem_toArray, List.getElem_cons_zero, List.getElem_cons_succ, Act.put, List.setIfInBounds_toArray, List.set_cons_zero, List.set_cons_succ]
        refine wpAnyH_take (i := 5) (v := .pointer (some ⟨bb, oo + k * 29 + 26, none⟩)) rfl (by kernel_rfl) (by kernel_rfl) (by kernel_rfl) (fun _ _ _ h => h) (.inl ⟨by rfl, ?_⟩) (by assumption) ?_
        · intro W hW; go_simp
        try simp only [List.getElem_toArray, List.getElem_cons_zero, List.getElem_cons_succ, Act.put, List.setIfInBounds_toArray, List.set_cons_zero, List.set_cons_succ]
        refine wpAnyH_take (i := 6) (v := .int .i64 x.ba) rfl (by kernel_rfl) (by kernel_rfl) (by kernel_rfl) (fun _ _ _ h => h) (.inl ⟨by rfl, ?_⟩) (by assumption) ?_
        · intro W hW; have kk := CB.out W hW; go_simp
        try simp only [List.getElem_toArray, List.getElem_cons_zero, List.getElem_cons_succ, Act.put, List.setIfInBounds_toArray, List.set_cons_zero, List.set_cons_succ]
        refine wpAnyH_take (i := 8) (v := .slice (some ⟨bb, oo, none⟩) n c) rfl (by kernel_rfl) (by kernel_rfl) (by kernel_rfl) (fun _ _ _ h => h) (.inl ⟨by rfl, ?_⟩) (by assumption) ?_
        · intro W hW; go_simp
        try simp only [List.getElem_toArray, List.getElem_cons_zero, List.getElem_cons_succ, Act.put, List.setIfInBounds_toArray, List.set_cons_zero, List.set_cons_succ]
        refine wpAnyH_take (i := 9) (v := .int .i64 k) rfl (by kernel_rfl) (by kernel_rfl) (by kernel_rfl) (fun _ _ _ h => h) (.inl ⟨by rfl, ?_⟩) (by assumption) ?_
        · intro W hW; go_simp
        try simp only [List.getElem_toArray, List.getElem_cons_zero, List.getElem_cons_succ, Act.put, List.setIfInBounds_toArray, List.set_cons_zero, List.set_cons_succ]
        refine wpAnyH_take (i := 10) (v := .pointer (some ⟨bb, oo + k * 29, none⟩)) rfl (by kernel_rfl) (by kernel_rfl) (by kernel_rfl) (fun _ _ _ h => h) (.inl ⟨by rfl, ?_⟩) (by assumption) ?_
        · intro W hW; go_simp
        try simp only [List.getElem_toArray, List.getElem_cons_zero, List.getElem_cons_succ, Act.put, List.setIfInBounds_toArray, List.set_cons_zero, List.set_cons_succ]
        refine wpAnyH_take (i := 11) (v := .pointer (some ⟨bb, oo + k * 29, none⟩)) rfl (by kernel_rfl) (by kernel_rfl) (by kernel_rfl) (fun _ _ _ h => h) (.inl ⟨by rfl, ?_⟩) (by assumption) ?_
        · intro W hW; go_simp
        try simp only [List.getElem_toArray, List.getElem_cons_zero, List.getElem_cons_succ, Act.put, List.setIfInBounds_toArray, List.set_cons_zero, List.set_cons_succ]
        refine wpAnyH_take (i := 12) (v := .pointer (some ⟨bb, oo + k * 29 + 25, none⟩)) rfl (by kernel_rfl) (by kernel_rfl) (by kernel_rfl) (fun _ _ _ h => h) (.inl ⟨by rfl, ?_⟩) (by assumption) ?_
        · intro W hW; go_simp
        try simp only [List.getElem_toArray, List.getElem_cons_zero, List.getElem_cons_succ, Act.put, List.setIfInBounds_toArray, List.set_cons_zero, List.set_cons_succ]
        refine wpAnyH_take (i := 13) (v := .int .i64 x.lg.q) rfl (by kernel_rfl) (by kernel_rfl) (by kernel_rfl) (fun _ _ _ h => h) (.inl ⟨by rfl, ?_⟩) (by assumption) ?_
        · intro W hW; have kk := CQ.out W hW; go_simp
        try simp only [List.getElem_toArray, List.getElem_cons_zero, List.getElem_cons_succ, Act.put, List.setIfInBounds_toArray, List.set_cons_zero, List.set_cons_succ]
        refine wpAnyH_take (i := 14) (v := .slice (some ⟨bb, oo, none⟩) n c) rfl (by kernel_rfl) (by kernel_rfl) (by kernel_rfl) (fun _ _ _ h => h) (.inl ⟨by rfl, ?_⟩) (by assumption) ?_
        · intro W hW; go_simp
        try simp only [List.getElem_toArray, List.getElem_cons_zero, List.getElem_cons_succ, Act.put, List.setIfInBounds_toArray, List.set_cons_zero, List.set_cons_succ]
        refine wpAnyH_take (i := 15) (v := .int .i64 k) rfl (by kernel_rfl) (by kernel_rfl) (by kernel_rfl) (fun _ _ _ h => h) (.inl ⟨by rfl, ?_⟩) (by assumption) ?_
        · intro W hW; go_simp
        try simp only [List.getElem_toArray, List.getElem_cons_zero, List.getElem_cons_succ, Act.put, List.setIfInBounds_toArray, List.set_cons_zero, List.set_cons_succ]
        refine wpAnyH_take (i := 16) (v := .pointer (some ⟨bb, oo + k * 29, none⟩)) rfl (by kernel_rfl) (by kernel_rfl) (by kernel_rfl) (fun _ _ _ h => h) (.inl ⟨by rfl, ?_⟩) (by assumption) ?_
        · intro W hW; go_simp
        try simp only [List.getElem_toArray, List.getElem_cons_zero, List.getElem_cons_succ, Act.put, List.setIfInBounds_toArray, List.set_cons_zero, List.set_cons_succ]
        refine wpAnyH_take (i := 17) (v := .pointer (some ⟨bb, oo + k * 29 + 27, none⟩)) rfl (by kernel_rfl) (by kernel_rfl) (by kernel_rfl) (fun _ _ _ h => h) (.inl ⟨by rfl, ?_⟩) (by assumption) ?_
        · intro W hW; go_simp
        try simp only [List.getElem_toArray, List.getElem_cons_zero, List.getElem_cons_succ, Act.put, List.setIfInBounds_toArray, List.set_cons_zero, List.set_cons_succ]
        refine wpAnyH_take (i := 18) (v := .int .i64 x.pr) rfl (by kernel_rfl) (by kernel_rfl) (by kernel_rfl) (fun _ _ _ h => h) (.inl ⟨by rfl, ?_⟩) (by assumption) ?_
        · intro W hW; have kk := CP.out W hW; go_simp
        try simp only [List.getElem_toArray, List.getElem_cons_zero, List.getElem_cons_succ, Act.put, List.setIfInBounds_toArray, List.set_cons_zero, List.set_cons_succ]
        refine wpAnyH_take (i := 19) (v := .int .i64 (x.lg.q * x.pr)) rfl (by kernel_rfl) (by kernel_rfl) (by kernel_rfl) (fun _ _ _ h => h) (.inl ⟨by rfl, ?_⟩) (by assumption) ?_
        · intro W hW; go_simp; rw [IntKind.wrap_i64]; omega
        try simp only [List.getElem_toArray, List.getElem_cons_zero, List.getElem_cons_succ, Act.put, List.setIfInBounds_toArray, List.set_cons_zero, List.set_cons_succ]
        have k62 := ND2.out.c2
        refine wpAnyH_ready (rs := [1]) (by decide +kernel) (by simp) (AllReadyH.cons rfl (fun KQ hK => ?_) AllReadyH.nil)
        go_simp
        refine hK.out _ _ HH2.out (fun _ => ?_)
        clear hK k62
        try simp only [List.setIfInBounds_toArray, List.set_cons_zero, List.set_cons_succ]
        refine wpAnyH_take (i := 7) (v := .int .i64 (u + x.ba)) rfl (by kernel_rfl) (by kernel_rfl) (by kernel_rfl) (fun _ _ _ h => h) (.inl ⟨by rfl, ?_⟩) (by assumption) ?_
        · intro W hW; go_simp; rw [IntKind.wrap_i64]; omega
        try simp only [List.getElem_toArray, List.getElem_cons_zero, List.getElem_cons_succ, Act.put, List.setIfInBounds_toArray, List.set_cons_zero, List.set_cons_succ]
        refine wpAnyH_take (i := 20) (v := .int .i64 (u + x.ba - x.lg.q * x.pr)) rfl (by kernel_rfl) (by kernel_rfl) (by kernel_rfl) (fun _ _ _ h => h) (.inl ⟨by rfl, ?_⟩) (by assumption) ?_
        · intro W hW; go_simp; rw [IntKind.wrap_i64]; omega
        try simp only [List.getElem_toArray, List.getElem_cons_zero, List.getElem_cons_succ, Act.put, List.setIfInBounds_toArray, List.set_cons_zero, List.set_cons_succ]
        refine wpAnyH_take (i := 21) (v := .pointer (some ⟨g6, 2, none⟩)) rfl (by kernel_rfl) (by kernel_rfl) (by kernel_rfl) (fun _ _ _ h => h) (.inl ⟨by rfl, ?_⟩) (by assumption) ?_
        · intro W hW; go_simp
        try simp only [List.getElem_toArray, List.getElem_cons_zero, List.getElem_cons_succ, Act.put, List.setIfInBounds_toArray, List.set_cons_zero, List.set_cons_succ]
        have k62 := ND2.out.c2
        have f62 := ND2.out.f 2
        refine wpAnyH_ready (rs := [22]) (by decide +kernel) (by simp) (AllReadyH.cons rfl (fun KQ hK => ?_) AllReadyH.nil)
        go_simp
        have P7 := Lib.hid (ND2.out.put2 (u + x.ba - x.lg.q * x.pr))
        have F7 := Lib.hid (HH2.out.same (Fr.set (S := fun k => k = g6) (p := ⟨g6, 2, none⟩) rfl (.int .i64 (u + x.ba - x.lg.q * x.pr))))
        obtain ⟨V3, hV3⟩ : ∃ V3, V2.drew.setCell ⟨g6, 2, none⟩ (.int .i64 (u + x.ba - x.lg.q * x.pr)) = V3 := ⟨_, rfl⟩
        rw [hV3] at P7 F7
        rw [show (V2.setCell ⟨g6, 2, none⟩ (.int .i64 (u + x.ba - x.lg.q * x.pr))).drew = V3 from hV3]
        refine hK.out _ _ F7.out (fun _ => ?_)
        clear hK k62 f62 hV3
        try simp only [List.setIfInBounds_toArray, List.set_cons_zero, List.set_cons_succ]
        refine wpAnyH_done (by decide +kernel) ?_ _
        go_wp2_with fail
        go_roundw
        case rel => exact ⟨k + 1, hlt, by go_num, SK1.out, by rw [EL'.out, EW'.out, EU'.out, show u + (x.ba - x.lg.q * x.pr) = u + x.ba - x.lg.q * x.pr by omega]; exact P7.out⟩
        case measure => simp [intOf]; omega
      · go_simp
        refine (WO.out _ (IN.out _ ND.out.bel)).mono ?_; rintro e0 V1 ⟨rfl, q1⟩
        have HV := Lib.hid (HH.out.same (Fr.below (S := fun k => k = g6) q1))
        have NV := Lib.hid (ND.out.below q1)
        refine hK.out _ _ HV.out (fun _ => ?_)
        clear hK q1
        try simp only [List.setIfInBounds_toArray, List.set_cons_zero, List.set_cons_succ]
        have k61 := NV.out.c1
        refine wpAnyH_ready (rs := [1]) (by decide +kernel) (by simp) (AllReadyH.cons rfl (fun KQ hK => ?_) AllReadyH.nil)
        go_simp
        refine hK.out _ _ HV.out (fun _ => ?_)
        clear hK k61
        try simp only [List.setIfInBounds_toArray, List.set_cons_zero, List.set_cons_succ]
        refine wpAnyH_take (i := 7) (v := .int .i64 (a + ws)) rfl (by kernel_rfl) (by kernel_rfl) (by kernel_rfl) (fun _ _ _ h => h) (.inl ⟨by rfl, ?_⟩) (by assumption) ?_
        · intro W hW; go_simp; rw [IntKind.wrap_i64]; omega
        try simp only [List.getElem_toArray, List.getElem_cons_zero, List.getElem_cons_succ, Act.put, List.setIfInBounds_toArray, List.set_cons_zero, List.set_cons_succ]
        refine wpAnyH_take (i := 8) (v := .pointer (some ⟨g6, 1, none⟩)) rfl (by kernel_rfl) (by kernel_rfl) (by kernel_rfl) (fun _ _ _ h => h) (.inl ⟨by rfl, ?_⟩) (by assumption) ?_
        · intro W hW; go_simp
        try simp only [List.getElem_toArray, List.getElem_cons_zero, List.getElem_cons_succ, Act.put, List.setIfInBounds_toArray, List.set_cons_zero, List.set_cons_succ]
        have k61 := NV.out.c1
        have f61 := NV.out.f 1
        refine wpAnyH_ready (rs := [9]) (by decide +kernel) (by simp) (AllReadyH.cons rfl (fun KQ hK => ?_) AllReadyH.nil)
        go_simp
        have P6 := Lib.hid (NV.out.put1 (a + ws))
        have F6 := Lib.hid (HV.out.same (Fr.set (S := fun k => k = g6) (p := ⟨g6, 1, none⟩) rfl (.int .i64 (a + ws))))
        obtain ⟨V2, hV2⟩ : ∃ V2, V1.setCell ⟨g6, 1, none⟩ (.int .i64 (a + ws)) = V2 := ⟨_, rfl⟩
        rw [hV2] at P6 F6
        rw [hV2]
        refine hK.out _ _ F6.out (fun _ => ?_)
        clear hK k61 f61 hV2
        try simp only [List.setIfInBounds_toArray, List.set_cons_zero, List.set_cons_succ]
        refine wpAnyH_done (by decide +kernel) ?_ _
        go_wp2_with fail
        refine wp_region_held_drew (S := fun U => Fr (fun k => k = g6) V2 U) (by kernel_rfl) ((Fr.refl _ _).drewN 1) (fun hH => ?_)
        have ND2 := Lib.hid (P6.out.below ((Below.refl V2.heap.size V2).drew))
        have HH2 := Lib.hid hH
        have SB2 : Hid (∀ U, Fr (fun k => k = g6) V2 U → U.rangeAt bb (oo + k * 29) (EK.cells x)) := Lib.hid fun U hU => RG.out U (SB.out U (F6.out.same hU))
        have CQ : Hid (∀ U, Fr (fun k => k = g6) V2 U → U.cell? ⟨bb, oo + k * 29 + 25, none⟩ = some (.int .i64 x.lg.q)) := Lib.hid fun U hU => rq_q (kq_lg (SB2.out U hU))
        have CB : Hid (∀ U, Fr (fun k => k = g6) V2 U → U.cell? ⟨bb, oo + k * 29 + 26, none⟩ = some (.int .i64 x.ba)) := Lib.hid fun U hU => kq_at (SB2.out U hU) (sk_ba x)
        have CP : Hid (∀ U, Fr (fun k => k = g6) V2 U → U.cell? ⟨bb, oo + k * 29 + 27, none⟩ = some (.int .i64 x.pr)) := Lib.hid fun U hU => kq_at (SB2.out U hU) (sk_pr x)
        refine wpAnyH_take (i := 0) (v := .pointer (some ⟨g6, 2, none⟩)) rfl (by kernel_rfl) (by kernel_rfl) (by kernel_rfl) (fun _ _ _ h => h) (.inl ⟨by rfl, ?_⟩) (by assumption) ?_
        · intro W hW; go_simp
        try simp only [List.getElem_toArray, List.getElem_cons_zero, Act.put, List.setIfInBounds_toArray, List.set_cons_zero, List.set_cons_succ]
        refine wpAnyH_take (i := 2) (v := .slice (some ⟨bb, oo, none⟩) n c) rfl (by kernel_rfl) (by kernel_rfl) (by kernel_rfl) (fun _ _ _ h => h) (.inl ⟨by rfl, ?_⟩) (by assumption) ?_
        · intro W hW; go_simp
        try simp only [List.getElem_toArray, List.getElem_cons_zero, List.getElem_cons_succ, Act.put, List.setIfInBounds_toArray, List.set_cons_zero, List.set_cons_succ]
        refine wpAnyH_take (i := 3) (v := .int .i64 k) rfl (by kernel_rfl) (by kernel_rfl) (by kernel_rfl) (fun _ _ _ h => h) (.inl ⟨by rfl, ?_⟩) (by assumption) ?_
        · intro W hW; go_simp
        try simp only [List.getElem_toArray, List.getElem_cons_zero, List.getElem_cons_succ, Act.put, List.setIfInBounds_toArray, List.set_cons_zero, List.set_cons_succ]
        refine wpAnyH_take (i := 4) (v := .pointer (some ⟨bb, oo + k * 29, none⟩)) rfl (by kernel_rfl) (by kernel_rfl) (by kernel_rfl) (fun _ _ _ h => h) (.inl ⟨by rfl, ?_⟩) (by assumption) ?_
        · intro W hW; go_simp
        try simp only [List.getElem_toArray, List.getElem_cons_zero, List.getElem_cons_succ, Act.put, List.setIfInBounds_toArray, List.set_cons_zero, List.set_cons_succ]
        refine wpAnyH_take (i := 5) (v := .pointer (some ⟨bb, oo + k * 29 + 26, none⟩)) rfl (by kernel_rfl) (by kernel_rfl) (by kernel_rfl) (fun _ _ _ h => h) (.inl ⟨by rfl, ?_⟩) (by assumption) ?_
        · intro W hW; go_simp
        try simp only [List.getElem_toArray, List.getElem_cons_zero, List.getElem_cons_succ, Act.put, List.setIfInBounds_toArray, List.set_cons_zero, List.set_cons_succ]
        refine wpAnyH_take (i := 6) (v := .int .i64 x.ba) rfl (by kernel_rfl) (by kernel_rfl) (by kernel_rfl) (fun _ _ _ h => h) (.inl ⟨by rfl, ?_⟩) (by assumption) ?_
        · intro W hW; have kk := CB.out W hW; go_simp
        try simp only [List.getElem_toArray, List.getElem_cons_zero, List.getElem_cons_succ, Act.put, List.setIfInBounds_toArray, List.set_cons_zero, List.set_cons_succ]
        refine wpAnyH_take (i := 8) (v := .slice (some ⟨bb, oo, none⟩) n c) rfl (by kernel_rfl) (by kernel_rfl) (by kernel_rfl) (fun _ _ _ h => h) (.inl ⟨by rfl, ?_⟩) (by assumption) ?_
        · intro W hW; go_simp
        try simp only [List.getElem_toArray, List.getElem_cons_zero, List.getElem_cons_succ, Act.put, List.setIfInBounds_toArray, List.set_cons_zero, List.set_cons_succ]
        refine wpAnyH_take (i := 9) (v := .int .i64 k) rfl (by kernel_rfl) (by kernel_rfl) (by kernel_rfl) (fun _ _ _ h => h) (.inl ⟨by rfl, ?_⟩) (by assumption) ?_
        · intro W hW; go_simp
        try simp only [List.getElem_toArray, List.getElem_cons_zero, List.getElem_cons_succ, Act.put, List.setIfInBounds_toArray, List.set_cons_zero, List.set_cons_succ]
        refine wpAnyH_take (i := 10) (v := .pointer (some ⟨bb, oo + k * 29, none⟩)) rfl (by kernel_rfl) (by kernel_rfl) (by kernel_rfl) (fun _ _ _ h => h) (.inl ⟨by rfl, ?_⟩) (by assumption) ?_
        · intro W hW; go_simp
        try simp only [List.getElem_toArray, List.getElem_cons_zero, List.getElem_cons_succ, Act.put, List.setIfInBounds_toArray, List.set_cons_zero, List.set_cons_succ]
        refine wpAnyH_take (i := 11) (v := .pointer (some ⟨bb, oo + k * 29, none⟩)) rfl (by kernel_rfl) (by kernel_rfl) (by kernel_rfl) (fun _ _ _ h => h) (.inl ⟨by rfl, ?_⟩) (by assumption) ?_
        · intro W hW; go_simp
        try simp only [List.getElem_toArray, List.getElem_cons_zero, List.getElem_cons_succ, Act.put, List.setIfInBounds_toArray, List.set_cons_zero, List.set_cons_succ]
        refine wpAnyH_take (i := 12) (v := .pointer (some ⟨bb, oo + k * 29 + 25, none⟩)) rfl (by kernel_rfl) (by kernel_rfl) (by kernel_rfl) (fun _ _ _ h => h) (.inl ⟨by rfl, ?_⟩) (by assumption) ?_
        · intro W hW; go_simp
        try simp only [List.getElem_toArray, List.getElem_cons_zero, List.getElem_cons_succ, Act.put, List.setIfInBounds_toArray, List.set_cons_zero, List.set_cons_succ]
        refine wpAnyH_take (i := 13) (v := .int .i64 x.lg.q) rfl (by kernel_rfl) (by kernel_rfl) (by kernel_rfl) (fun _ _ _ h => h) (.inl ⟨by rfl, ?_⟩) (by assumption) ?_
        · intro W hW; have kk := CQ.out W hW; go_simp
        try simp only [List.getElem_toArray, List.getElem_cons_zero, List.getElem_cons_succ, Act.put, List.setIfInBounds_toArray, List.set_cons_zero, List.set_cons_succ]
        refine wpAnyH_take (i := 14) (v := .slice (some ⟨bb, oo, none⟩) n c) rfl (by kernel_rfl) (by kernel_rfl) (by kernel_rfl) (fun _ _ _ h => h) (.inl ⟨by rfl, ?_⟩) (by assumption) ?_
        · intro W hW; go_simp
        try simp only [List.getElem_toArray, List.getElem_cons_zero, List.getElem_cons_succ, Act.put, List.setIfInBounds_toArray, List.set_cons_zero, List.set_cons_succ]
        refine wpAnyH_take (i := 15) (v := .int .i64 k) rfl (by kernel_rfl) (by kernel_rfl) (by kernel_rfl) (fun _ _ _ h => h) (.inl ⟨by rfl, ?_⟩) (by assumption) ?_
        · intro W hW; go_simp
        try simp only [List.getElem_toArray, List.getElem_cons_zero, List.getElem_cons_succ, Act.put, List.setIfInBounds_toArray, List.set_cons_zero, List.set_cons_succ]
        refine wpAnyH_take (i := 16) (v := .pointer (some ⟨bb, oo + k * 29, none⟩)) rfl (by kernel_rfl) (by kernel_rfl) (by kernel_rfl) (fun _ _ _ h => h) (.inl ⟨by rfl, ?_⟩) (by assumption) ?_
        · intro W hW; go_simp
        try simp only [List.getElem_toArray, List.getElem_cons_zero, List.getElem_cons_succ, Act.put, List.setIfInBounds_toArray, List.set_cons_zero, List.set_cons_succ]
        refine wpAnyH_take (i := 17) (v := .pointer (some ⟨bb, oo + k * 29 + 27, none⟩)) rfl (by kernel_rfl) (by kernel_rfl) (by kernel_rfl) (fun _ _ _ h => h) (.inl ⟨by rfl, ?_⟩) (by assumption) ?_
        · intro W hW; go_simp
        try simp only [List.getElem_toArray, List.getElem_cons_zero, List.getElem_cons_succ, Act.put, List.setIfInBounds_toArray, List.set_cons_zero, List.set_cons_succ]
        refine wpAnyH_take (i := 18) (v := .int .i64 x.pr) rfl (by kernel_rfl) (by kernel_rfl) (by kernel_rfl) (fun _ _ _ h => h) (.inl ⟨by rfl, ?_⟩) (by assumption) ?_
        · intro W hW; have kk := CP.out W hW; go_simp
        try simp only [List.getElem_toArray, List.getElem_cons_zero, List.getElem_cons_succ, Act.put, List.setIfInBounds_toArray, List.set_cons_zero, List.set_cons_succ]
        refine wpAnyH_take (i := 19) (v := .int .i64 (x.lg.q * x.pr)) rfl (by kernel_rfl) (by kernel_rfl) (by kernel_rfl) (fun _ _ _ h => h) (.inl ⟨by rfl, ?_⟩) (by assumption) ?_
        · intro W hW; go_simp; rw [IntKind.wrap_i64]; omega
        try simp only [List.getElem_toArray, List.getElem_cons_zero, List.getElem_cons_succ, Act.put, List.setIfInBounds_toArray, List.set_cons_zero, List.set_cons_succ]
        have k62 := ND2.out.c2
        refine wpAnyH_ready (rs := [1]) (by decide +kernel) (by simp) (AllReadyH.cons rfl (fun KQ hK => ?_) AllReadyH.nil)
        go_simp
        refine hK.out _ _ HH2.out (fun _ => ?_)
        clear hK k62
        try simp only [List.setIfInBounds_toArray, List.set_cons_zero, List.set_cons_succ]
        refine wpAnyH_take (i := 7) (v := .int .i64 (u + x.ba)) rfl (by kernel_rfl) (by kernel_rfl) (by kernel_rfl) (fun _ _ _ h => h) (.inl ⟨by rfl, ?_⟩) (by assumption) ?_
        · intro W hW; go_simp; rw [IntKind.wrap_i64]; omega
        try simp only [List.getElem_toArray, List.getElem_cons_zero, List.getElem_cons_succ, Act.put, List.setIfInBounds_toArray, List.set_cons_zero, List.set_cons_succ]
        refine wpAnyH_take (i := 20) (v := .int .i64 (u + x.ba - x.lg.q * x.pr)) rfl (by kernel_rfl) (by kernel_rfl) (by kernel_rfl) (fun _ _ _ h => h) (.inl ⟨by rfl, ?_⟩) (by assumption) ?_
        · intro W hW; go_simp; rw [IntKind.wrap_i64]; omega
        try simp only [List.getElem_toArray, List.getElem_cons_zero, List.getElem_cons_succ, Act.put, List.setIfInBounds_toArray, List.set_cons_zero, List.set_cons_succ]
        refine wpAnyH_take (i := 21) (v := .pointer (some ⟨g6, 2, none⟩)) rfl (by kernel_rfl) (by kernel_rfl) (by kernel_rfl) (fun _ _ _ h => h) (.inl ⟨by rfl, ?_⟩) (by assumption) ?_
        · intro W hW; go_simp
        try simp only [List.getElem_toArray, List.getElem_cons_zero, List.getElem_cons_succ, Act.put, List.setIfInBounds_toArray, List.set_cons_zero, List.set_cons_succ]
        have k62 := ND2.out.c2
        have f62 := ND2.out.f 2
        refine wpAnyH_ready (rs := [22]) (by decide +kernel) (by simp) (AllReadyH.cons rfl (fun KQ hK => ?_) AllReadyH.nil)
        go_simp
        have P7 := Lib.hid (ND2.out.put2 (u + x.ba - x.lg.q * x.pr))
        have F7 := Lib.hid (HH2.out.same (Fr.set (S := fun k => k = g6) (p := ⟨g6, 2, none⟩) rfl (.int .i64 (u + x.ba - x.lg.q * x.pr))))
        obtain ⟨V3, hV3⟩ : ∃ V3, V2.drew.setCell ⟨g6, 2, none⟩ (.int .i64 (u + x.ba - x.lg.q * x.pr)) = V3 := ⟨_, rfl⟩
        rw [hV3] at P7 F7
        rw [show (V2.setCell ⟨g6, 2, none⟩ (.int .i64 (u + x.ba - x.lg.q * x.pr))).drew = V3 from hV3]
        refine hK.out _ _ F7.out (fun _ => ?_)
        clear hK k62 f62 hV3
        try simp only [List.setIfInBounds_toArray, List.set_cons_zero, List.set_cons_succ]
        refine wpAnyH_done (by decide +kernel) ?_ _
        go_wp2_with fail
        go_roundw
        case rel => exact ⟨k + 1, hlt, by go_num, SK1.out, by rw [EL'.out, EW'.out, EU'.out, show u + (x.ba - x.lg.q * x.pr) = u + x.ba - x.lg.q * x.pr by omega]; exact P7.out⟩
        case measure => simp [intOf]; omega
theorem rneed11 (A : Option Addr) (n c : Nat) (l : List Sk) (w : World) (h : EK.Rd w A n l) (hok : ∀ x, x ∈ l → x.ok ∧ x.In w) (hn : n ≤ maxLen) :
    Calls Try.prog 11 #[.slice A n c] w fun e w' => e = .returned (.tuple #[.agg (EN.cells (neN l)).toArray, .int .i64 (neE l)]) ∧ Below w.heap.size w w' := by
  by_cases c1 : 16 < l.length
  · rcases neE_cases l with ⟨h1, h2, h3⟩ | c | c | c
    · rw [h2, h3]
      exact rneed_long A n c l w h hn h1
    · omega
    · have := c.1.1; omega
    · have := c.1.1; omega
  · exact rneed_loop A n c l w h hok (by omega)
end Go.Proofs.Ytcpcnjiphiokjaa
