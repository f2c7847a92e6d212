/- The program's ledger: rising$1 at accounts (by genMl.py). -/
import Derived.Test.YthnmpnepgagmmaaMk
namespace Go.Proofs.Ythnmpnepgagmmaa
open Go.RowKit Go.Shelf
set_option linter.unusedVariables false
set_option linter.unusedSimpArgs false
set_option linter.unusedSectionVars false

set_option maxRecDepth 100000 in
set_option maxHeartbeats 16000000 in
theorem lrisA9_in (n l0 : Nat) (hn : 1 ≤ n) {S : World → Nat → Prop} {N N0 C1 C2 b g af nf : Nat} {lb : Array Value} {l ls : List Ac} {num : Ac → Int} {T : Nat → Prop} (st : Still S N) (J Jx : List Ac → World → Prop) (W : World) (hNW : N ≤ W.heap.size) (cJ : Calm W.heap.size S J)
    (hY : ∀ pre x W1, J pre W1 → (pre ++ [x]) <+: ls → YieldAt Fence.wide (n - 1) Try.prog l0 #[.agg (EA.cells x).toArray] W1 fun e W' =>
      (e = .returned (.bool true) ∧ J (pre ++ [x]) W' ∧ Kn N0 S W1 W') ∨ (e = .returned (.bool false) ∧ Jx (pre ++ [x]) W'))
    (hC1 : W.cell? ⟨C1, 0, none⟩ = some (.func (.func af) #[.pointer (some ⟨g, 0, none⟩)] #[])) (hC2 : W.cell? ⟨C2, 0, none⟩ = some (.func (.func nf) #[] lb)) (hT1 : T C1) (hT2 : T C2) (hTb : T b)
    (hT : ∀ k, T k → k < W.heap.size ∧ (k < N0 ∨ ∃ cs t f, W.heap[k]? = some (.cells cs t f))) (wf : ∀ k, S W k → k < W.heap.size) (ap : ∀ k, T k → ¬ S W k)
    (hall : ∀ W', (∀ k, T k → W'.heap[k]? = W.heap[k]?) → Calls Try.prog af #[.pointer (some ⟨g, 0, none⟩)] W' fun e w' => e = .returned (.map (some b)) ∧ W' = w')
    (hnum : ∀ W' x, (∀ k, T k → W'.heap[k]? = W.heap[k]?) → x ∈ l → Calls Try.prog nf (#[.agg (EA.cells x).toArray] ++ lb) W' fun e w' => e = .returned (.int .u32 (num x)) ∧ Below W'.heap.size W' w')
    (ea : ∀ args w, (callFunc af args).run Try.prog w = .ok (.enter af args) w) (en : ∀ args w, (callFunc nf args).run Try.prog w = .ok (.enter nf args) w) (hM : MA.Mp W b l) (hR : Ris num l ls) (h0n : ∀ x, x ∈ l → 0 ≤ num x) (h0 : J [] W) :
    CallsIn Fence.wide n Try.prog 65 #[.func (.yield l0) #[] #[], .pointer (some ⟨C1, 0, none⟩), .pointer (some ⟨C2, 0, none⟩)] W fun e W' => (∃ v, e = .returned v) ∧
      ((∃ xs, xs = ls ∧ J xs W') ∨ (∃ pre, pre <+: ls ∧ Jx pre W')) := by
  have hz := zero_ac
  have c1 := hC1
  have c2 := hC2
  have RI := Lib.hid hR
  have WF := Lib.hid wf
  have AP := Lib.hid ap
  have CJ := Lib.hid cJ
  have HY := Lib.hid hY
  have ST := Lib.hid st
  have J0 := Lib.hid h0
  have NW := Lib.hid hNW
  have HT := Lib.hid hT
  have TL : Hid (∀ k, T k → k < W.heap.size) := Lib.hid fun k hk => (hT k hk).1
  have HT12 : Hid (T C1 ∧ T C2 ∧ T b) := Lib.hid ⟨hT1, hT2, hTb⟩
  have ALLW := Lib.hid hall
  have NUM := Lib.hid hnum
  have HM := Lib.hid hM
  have NX := Lib.hid fun (told : Int) (ht : 0 ≤ told) (W' : World) (sm : ∀ k, T k → W'.heap[k]? = W.heap[k]?) => lnextA9 nf lb num told W' (hM.same (sm b hTb)) en (fun W2 x q hx => hnum W2 x (fun k hk => (q.block k (by
    have h1 := sm k hk
    have h2 := (hT k hk).1
    rw [Array.getElem?_eq_getElem h2] at h1
    exact (Array.getElem?_eq_some_iff.1 h1).1)).trans (sm k hk)) hx) h0n ht
  have NX0 : Hid (∀ V, Below W.heap.size W V → Calls Try.prog 66 #[.map (some b), .int .u32 0, .func (.func nf) #[] lb] V fun e w' => ∃ o, Best 0 num l o ∧ e = .returned (.tuple #[.agg (EA.cells (o.getD zeroAc)).toArray, .bool o.isSome]) ∧ Below V.heap.size V w') := Lib.hid fun V q => NX.out 0 (Int.le_refl _) V (fun k hk => q.block k (hT k hk).1)
  have IT0 : Hid (∀ X y V, Below W.heap.size W V → W.heap.size ≤ X → EA.Bx 33 V X y → ItN EA 33 S N N0 T W X y V) := Lib.hid fun X y V q hX hx => by
    have s := st W V hNW (fun k hk => q.block k (Nat.lt_of_lt_of_le hk hNW))
    refine ⟨fun k hk => q.block k (hT k hk).1, hT, q.size, hx, Nat.le_trans hNW q.size, fun k hk => Nat.lt_of_lt_of_le (wf k (s k hk)) q.size, fun k hk c => ?_, fun k hk => ?_⟩
    · rcases hk with hk | rfl
      · exact ap k hk (s k c)
      · have := wf _ (s _ c); omega
    · have := (hT k hk).1; omega
  clear hC1 hC2 wf ap cJ hY st h0 hNW hT hT1 hT2 hTb hall hnum hM hR h0n
  refine callsIn_of_wp Try.func65 rfl trivial ?_ rfl
  simp only [Try.ntmps65, List.size_toArray, List.length_cons, List.length_nil, Nat.reduceAdd, Nat.reduceSub, Array.replicate_succ, Array.replicate_zero, List.push_toArray, List.append_toArray, List.nil_append, List.cons_append]
  apply wpIn_seq_k; intro K1 h1
  have REST : Hid (∀ (X : Nat) (y : Ac) (t : Bool) (V : World), t = decide (0 < ls.length) → (∀ x, ls[0]? = some x → y = x) → W.heap.size ≤ X → Below W.heap.size W V → EA.Bx 33 V X y →
      K1 { tmps := #[.func (.yield l0) #[] #[], .pointer (some ⟨C1, 0, none⟩), .pointer (some ⟨C2, 0, none⟩), undef, .pointer (some ⟨X, 0, none⟩), .bool t, .tuple #[.agg (EA.cells y).toArray, .bool t], .func (.func af) #[.pointer (some ⟨g, 0, none⟩)] #[], .map (some b), .func (.func nf) #[] lb, .tuple #[.agg (EA.cells y).toArray, .bool t], .agg (EA.cells y).toArray, .bool t, undef, undef, undef, undef, undef, undef, undef, undef, undef, undef, undef, undef, undef, undef, undef, undef], defers := [] } V) := Lib.hid (by
    intro X y0 t0 V ht0 hy0 hX q3 xb
    have I3 := Lib.hid (IT0.out X y0 V q3 hX xb)
    have J3 := Lib.hid (CJ.out.grow (Nat.le_refl _) q3 J0.out)
    have HX0 := Lib.hid hX
    have NX1 : Hid (N ≤ X) := Lib.hid (Nat.le_trans NW.out hX)
    have HB0 := Lib.hid ht0
    have HY0 := Lib.hid hy0
    clear ht0 hy0 hX q3 xb IT0 NX0
    refine h1 _ _ ?_
    clear h1
    refine wpIn_block ?_
    gi_loopw [5] (fun t wr => ∃ (k : Nat) (y : Ac) (pre : List Ac), t = .bool (decide (k < ls.length)) ∧ k ≤ ls.length ∧ (∀ x, ls[k]? = some x → y = x) ∧ pre = ls.take k ∧ ItN EA 33 S N N0 T W X y wr ∧ J pre wr)
      (fun t wr => match t with | .bool true => ls.length - ls.findIdx (fun z => @decide (EA.Bx 33 wr X z) (Classical.propDecidable _)) | _ => 0)
    case atStart => exact ⟨0, y0, [], by rw [HB0.out], Nat.zero_le _, HY0.out, rfl, I3.out, J3.out⟩
    case round =>
      obtain ⟨k, y, pre, rfl, hk, hy, hpre, hit, hJ⟩ := hrel
      have IT := Lib.hid hit
      have JJ := Lib.hid hJ
      have PR := Lib.hid hpre
      rcases Nat.lt_or_ge k ls.length with hlt | hge
      · obtain ⟨x, hx⟩ : ∃ x, ls[k]? = some x := ⟨ls[k], List.getElem?_eq_getElem hlt⟩
        obtain rfl := hy x hx
        have HX := Lib.hid hx
        have LT := Lib.hid hlt
        have px : pre ++ [y] = ls.take (k + 1) := by rw [hpre, List.take_add_one, hx]; rfl
        have PX := Lib.hid px
        have MS := Lib.hid (RI.out.pos injA hit.xb hx)
        obtain ⟨fn, tmps, assign, body, hyl, hR⟩ := HY.out pre y wr hJ (by rw [px]; exact List.take_prefix _ _)
        have HR := Lib.hid hR
        have RG := Lib.hid (gbx_rng hit.xb)
        rw [decide_eq_true hlt]
        clear hit hJ hy hpre hx hR hlt px
        apply wpIn_seq_k; intro K2 h2
        have H2 := Lib.hid h2
        clear h2
        gi_wp2_with ((with_reducible refine wlIn_gload TA X 0 RG.out ?_ ?_ ?_); rfl; rfl)
        refine HR.out.mono ?_
        rintro e W4 (⟨rfl, hJ4, hk4⟩ | ⟨rfl, hJx⟩)
        · have I4 := Lib.hid (IT.out.kept hk4)
          have J4 := Lib.hid hJ4
          clear hJ4 hk4
          gi_wp2
          refine H2.out _ _ ?_
          refine wpIn_block ?_
          refine wpIn_wide.2 ?_
          have YL := Lib.hid ((RI.out.mem y).1 (List.mem_of_getElem? HX.out))
          have K1' : Hid (∀ U, Fr (fun k => k = X) W4 U → U.cell? ⟨C1, 0, none⟩ = some (.func (.func af) #[.pointer (some ⟨g, 0, none⟩)] #[])) := Lib.hid fun U f => same_cell ((f.at' C1 (Nat.lt_of_lt_of_le (TL.out C1 HT12.out.1) I4.out.up) (I4.out.nX C1 HT12.out.1)).trans (I4.out.same C1 HT12.out.1)) c1
          have K2' : Hid (∀ U, Fr (fun k => k = X) W4 U → U.cell? ⟨C2, 0, none⟩ = some (.func (.func nf) #[] lb)) := Lib.hid fun U f => same_cell ((f.at' C2 (Nat.lt_of_lt_of_le (TL.out C2 HT12.out.2.1) I4.out.up) (I4.out.nX C2 HT12.out.2.1)).trans (I4.out.same C2 HT12.out.2.1)) c2
          have R4 : Hid (∀ U, Below W4.heap.size W4 U → U.rangeAt X 0 (EA.cells y)) := Lib.hid fun U q => gbx_rng (I4.out.below ST.out q).xb
          have SM : Hid (∀ U, Below W4.heap.size W4 U → ∀ k, T k → U.heap[k]? = W.heap[k]?) := Lib.hid fun U q => (I4.out.below ST.out q).same
          refine wp_region_held_drew (S := fun U => Fr (fun k => k = X) W4 U) (by kernel_rfl) (Fr.drewN (Fr.refl _ _) 1) (fun hH => ?_)
          have hB0 := (Below.refl W4.heap.size W4).drew
          refine wpAnyH_take (i := 0) (v := .func (.func af) #[.pointer (some ⟨g, 0, none⟩)] #[]) rfl (by kernel_rfl) (by kernel_rfl) (by kernel_rfl) (fun _ _ _ h => h) (.inl ⟨by rfl, ?_⟩) (by assumption) ?_
          · intro W hW; have h0 := K1'.out W hW; go_simp
          try simp only [List.getElem_toArray, List.getElem_cons_zero, List.getElem_cons_succ, Act.put, List.setIfInBounds_toArray, List.set_cons_zero, List.set_cons_succ]
          refine wpAnyH_take (i := 2) (v := .func (.func nf) #[] lb) rfl (by kernel_rfl) (by kernel_rfl) (by kernel_rfl) (fun _ _ _ h => h) (.inl ⟨by rfl, ?_⟩) (by assumption) ?_
          · intro W hW; have h0 := K2'.out W hW; go_simp
          try simp only [List.getElem_toArray, List.getElem_cons_zero, List.getElem_cons_succ, Act.put, List.setIfInBounds_toArray, List.set_cons_zero, List.set_cons_succ]
          refine wpAnyH_take (i := 5) (v := .func (.func nf) #[] lb) rfl (by kernel_rfl) (by kernel_rfl) (by kernel_rfl) (fun _ _ _ h => h) (.inl ⟨by rfl, ?_⟩) (by assumption) ?_
          · intro W hW; have h0 := K2'.out W hW; go_simp
          try simp only [List.getElem_toArray, List.getElem_cons_zero, List.getElem_cons_succ, Act.put, List.setIfInBounds_toArray, List.set_cons_zero, List.set_cons_succ]
          refine wpAnyH_ready (rs := [1, 3]) (by decide +kernel) (by simp) (AllReadyH.cons rfl (fun KQ hK => ?_) (AllReadyH.cons rfl (fun KQ hK => ?_) AllReadyH.nil))
          · go_simp
            refine (ALLW.out _ (SM.out _ hB0)).mono ?_; rintro e0 V1 ⟨rfl, rfl⟩
            refine hK.out _ _ hH (fun _ => ?_)
            clear hK
            try simp only [List.getElem_toArray, List.getElem_cons_zero, List.getElem_cons_succ, Act.put, List.setIfInBounds_toArray, List.set_cons_zero, List.set_cons_succ]
            refine wpAnyH_ready (rs := [3]) (by decide +kernel) (by simp) (AllReadyH.cons rfl (fun KQ hK => ?_) AllReadyH.nil)
            rw [if_pos (by rfl)]
            refine gwp_load TA (.tmp 4) rfl X 0 (R4.out _ hB0) rfl ?_
            refine hK.out _ _ hH (fun _ => ?_)
            clear hK
            try simp only [List.getElem_toArray, List.getElem_cons_zero, List.getElem_cons_succ, Act.put, List.setIfInBounds_toArray, List.set_cons_zero, List.set_cons_succ]
            refine wpAnyH_ready (rs := [4]) (by decide +kernel) (by simp) (AllReadyH.cons rfl (fun KQ hK => ?_) AllReadyH.nil)
            go_simp
            refine (NUM.out _ y (SM.out _ hB0) YL.out.1).mono ?_; rintro e0 V2 ⟨rfl, q2⟩
            have hB2 := hB0.trans (q2.mono hB0.size)
            have hH2 := hH.trans (Fr.below (S := fun k => k = X) q2) (fun _ h => h) (fun _ _ h => h)
            refine hK.out _ _ hH2 (fun _ => ?_)
            clear hK q2
            try simp only [List.getElem_toArray, List.getElem_cons_zero, List.getElem_cons_succ, Act.put, List.setIfInBounds_toArray, List.set_cons_zero, List.set_cons_succ]
            refine wpAnyH_ready (rs := [6]) (by decide +kernel) (by simp) (AllReadyH.cons rfl (fun KQ hK => ?_) AllReadyH.nil)
            go_simp
            refine (NX.out (num y) (Int.le_of_lt YL.out.2) _ (SM.out _ hB2)).mono ?_; rintro e0 V3 ⟨o, hbst, rfl, q3⟩
            have HO := Lib.hid (RI.out.next HX.out hbst)
            have hB3 := hB2.trans (q3.mono hB2.size)
            have hH3 := hH2.trans (Fr.below (S := fun k => k = X) q3) (fun _ h => h) (fun _ _ h => h)
            refine hK.out _ _ hH3 (fun _ => ?_)
            obtain ⟨z, hy⟩ : ∃ z, o.getD zeroAc = z := ⟨_, rfl⟩
            obtain ⟨t, ht⟩ : ∃ t, o.isSome = t := ⟨_, rfl⟩
            rw [hy, ht]
            have HZ0 := Lib.hid hy
            have HT0 := Lib.hid ht
            clear hK hbst q3 hy ht
            try simp only [List.getElem_toArray, List.getElem_cons_zero, List.getElem_cons_succ, Act.put, List.setIfInBounds_toArray, List.set_cons_zero, List.set_cons_succ]
            refine wpAnyH_take (i := 7) (v := .tuple #[.agg (EA.cells z).toArray, .bool t]) rfl (by kernel_rfl) (by kernel_rfl) (by kernel_rfl) (fun _ _ _ h => h) (.inl ⟨by rfl, ?_⟩) (by assumption) ?_
            · intro W hW; go_simp
            try simp only [List.getElem_toArray, List.getElem_cons_zero, List.getElem_cons_succ, Act.put, List.setIfInBounds_toArray, List.set_cons_zero, List.set_cons_succ]
            refine wpAnyH_take (i := 8) (v := .agg (EA.cells z).toArray) rfl (by kernel_rfl) (by kernel_rfl) (by kernel_rfl) (fun _ _ _ h => h) (.inl ⟨by rfl, ?_⟩) (by assumption) ?_
            · intro W hW; go_simp
            try simp only [List.getElem_toArray, List.getElem_cons_zero, List.getElem_cons_succ, Act.put, List.setIfInBounds_toArray, List.set_cons_zero, List.set_cons_succ]
            refine wpAnyH_take (i := 9) (v := .bool t) rfl (by kernel_rfl) (by kernel_rfl) (by kernel_rfl) (fun _ _ _ h => h) (.inl ⟨by rfl, ?_⟩) (by assumption) ?_
            · intro W hW; go_simp
            try simp only [List.getElem_toArray, List.getElem_cons_zero, List.getElem_cons_succ, Act.put, List.setIfInBounds_toArray, List.set_cons_zero, List.set_cons_succ]
            refine wpAnyH_ready (rs := [10]) (by decide +kernel) (by simp) (AllReadyH.cons rfl (fun KQ hK => ?_) AllReadyH.nil)
            rw [if_pos (by rfl)]
            refine gwp_store TA (.tmp 4) (.tmp 27) rfl z X (I4.out.below ST.out hB3).xb rfl rfl ?_
            have hH4 := hH3.trans (fr_row (S := fun k => k = X) (W := V3) rfl (EA.cells z).toArray) (fun _ h => h) (fun _ _ h => h)
            refine hK.out _ _ hH4 (fun _ => ?_)
            clear hK
            try simp only [List.getElem_toArray, List.getElem_cons_zero, List.getElem_cons_succ, Act.put, List.setIfInBounds_toArray, List.set_cons_zero, List.set_cons_succ]
            refine wpAnyH_take (i := 11) (v := .bool t) rfl (by kernel_rfl) (by kernel_rfl) (by kernel_rfl) (fun _ _ _ h => h) (.inl ⟨by rfl, ?_⟩) (by assumption) ?_
            · intro W hW; go_simp
            try simp only [List.getElem_toArray, List.getElem_cons_zero, List.getElem_cons_succ, Act.put, List.setIfInBounds_toArray, List.set_cons_zero, List.set_cons_succ]
            refine wpAnyH_done (by decide +kernel) ?_ _
            have I5 := Lib.hid (I4.out.below ST.out hB3)
            have J5 := Lib.hid (CJ.out.grow (by have := HX0.out; have := (Array.getElem?_eq_some_iff.1 I4.out.xb).1; omega) hB3 J4.out)
            have I6 := Lib.hid (I5.out.put ST.out NX1.out z)
            have J6 := Lib.hid (I5.out.calm CJ.out HX0.out z J5.out)
            have hzn : t = decide (k + 1 < ls.length) ∧ ∀ x, ls[k + 1]? = some x → z = x := by
              have e := HO.out
              constructor
              · rw [← HT0.out, e]
                rcases Nat.lt_or_ge (k + 1) ls.length with c | c
                · rw [List.getElem?_eq_getElem c, decide_eq_true c]; rfl
                · rw [List.getElem?_eq_none c, decide_eq_false (by omega)]; rfl
              · intro x hx
                rw [← HZ0.out, e, hx]; rfl
            have HZN := Lib.hid hzn
            clear hzn
            go_roundw
            case rel =>
              refine ⟨_, _, _, _, _, _, _, _, _, _, _, _, _, _, _, _, _, ⟨k + 1, z, pre ++ [y], ?_, LT.out, HZN.out.2, PX.out, I6.out, J6.out⟩, rfl⟩
              rw [HZN.out.1]
            case measure =>
              show _ < ls.length - _
              rw [MS.out]
              have hLT := LT.out
              rw [HZN.out.1]
              rcases Nat.lt_or_ge (k + 1) ls.length with cc | cc
              · rw [decide_eq_true cc]
                obtain ⟨z', hz'⟩ : ∃ z', ls[k + 1]? = some z' := ⟨ls[k + 1], List.getElem?_eq_getElem cc⟩
                obtain rfl := HZN.out.2 z' hz'
                show ls.length - _ < _
                rw [RI.out.pos injA I6.out.xb hz']
                omega
              · rw [decide_eq_false (by omega)]
                show 0 < _
                omega
          · rw [if_pos (by rfl)]
            refine gwp_load TA (.tmp 4) rfl X 0 (R4.out _ hB0) rfl ?_
            refine hK.out _ _ hH (fun _ => ?_)
            clear hK
            try simp only [List.getElem_toArray, List.getElem_cons_zero, List.getElem_cons_succ, Act.put, List.setIfInBounds_toArray, List.set_cons_zero, List.set_cons_succ]
            refine wpAnyH_ready (rs := [1]) (by decide +kernel) (by simp) (AllReadyH.cons rfl (fun KQ hK => ?_) AllReadyH.nil)
            go_simp
            refine (ALLW.out _ (SM.out _ hB0)).mono ?_; rintro e0 V1 ⟨rfl, rfl⟩
            refine hK.out _ _ hH (fun _ => ?_)
            clear hK
            try simp only [List.getElem_toArray, List.getElem_cons_zero, List.getElem_cons_succ, Act.put, List.setIfInBounds_toArray, List.set_cons_zero, List.set_cons_succ]
            refine wpAnyH_ready (rs := [4]) (by decide +kernel) (by simp) (AllReadyH.cons rfl (fun KQ hK => ?_) AllReadyH.nil)
            go_simp
            refine (NUM.out _ y (SM.out _ hB0) YL.out.1).mono ?_; rintro e0 V2 ⟨rfl, q2⟩
            have hB2 := hB0.trans (q2.mono hB0.size)
            have hH2 := hH.trans (Fr.below (S := fun k => k = X) q2) (fun _ h => h) (fun _ _ h => h)
            refine hK.out _ _ hH2 (fun _ => ?_)
            clear hK q2
            try simp only [List.getElem_toArray, List.getElem_cons_zero, List.getElem_cons_succ, Act.put, List.setIfInBounds_toArray, List.set_cons_zero, List.set_cons_succ]
            refine wpAnyH_ready (rs := [6]) (by decide +kernel) (by simp) (AllReadyH.cons rfl (fun KQ hK => ?_) AllReadyH.nil)
            go_simp
            refine (NX.out (num y) (Int.le_of_lt YL.out.2) _ (SM.out _ hB2)).mono ?_; rintro e0 V3 ⟨o, hbst, rfl, q3⟩
            have HO := Lib.hid (RI.out.next HX.out hbst)
            have hB3 := hB2.trans (q3.mono hB2.size)
            have hH3 := hH2.trans (Fr.below (S := fun k => k = X) q3) (fun _ h => h) (fun _ _ h => h)
            refine hK.out _ _ hH3 (fun _ => ?_)
            obtain ⟨z, hy⟩ : ∃ z, o.getD zeroAc = z := ⟨_, rfl⟩
            obtain ⟨t, ht⟩ : ∃ t, o.isSome = t := ⟨_, rfl⟩
            rw [hy, ht]
            have HZ0 := Lib.hid hy
            have HT0 := Lib.hid ht
            clear hK hbst q3 hy ht
            try simp only [List.getElem_toArray, List.getElem_cons_zero, List.getElem_cons_succ, Act.put, List.setIfInBounds_toArray, List.set_cons_zero, List.set_cons_succ]
            refine wpAnyH_take (i := 7) (v := .tuple #[.agg (EA.cells z).toArray, .bool t]) rfl (by kernel_rfl) (by kernel_rfl) (by kernel_rfl) (fun _ _ _ h => h) (.inl ⟨by rfl, ?_⟩) (by assumption) ?_
            · intro W hW; go_simp
            try simp only [List.getElem_toArray, List.getElem_cons_zero, List.getElem_cons_succ, Act.put, List.setIfInBounds_toArray, List.set_cons_zero, List.set_cons_succ]
            refine wpAnyH_take (i := 8) (v := .agg (EA.cells z).toArray) rfl (by kernel_rfl) (by kernel_rfl) (by kernel_rfl) (fun _ _ _ h => h) (.inl ⟨by rfl, ?_⟩) (by assumption) ?_
            · intro W hW; go_simp
            try simp only [List.getElem_toArray, List.getElem_cons_zero, List.getElem_cons_succ, Act.put, List.setIfInBounds_toArray, List.set_cons_zero, List.set_cons_succ]
            refine wpAnyH_take (i := 9) (v := .bool t) rfl (by kernel_rfl) (by kernel_rfl) (by kernel_rfl) (fun _ _ _ h => h) (.inl ⟨by rfl, ?_⟩) (by assumption) ?_
            · intro W hW; go_simp
            try simp only [List.getElem_toArray, List.getElem_cons_zero, List.getElem_cons_succ, Act.put, List.setIfInBounds_toArray, List.set_cons_zero, List.set_cons_succ]
            refine wpAnyH_ready (rs := [10]) (by decide +kernel) (by simp) (AllReadyH.cons rfl (fun KQ hK => ?_) AllReadyH.nil)
            rw [if_pos (by rfl)]
            refine gwp_store TA (.tmp 4) (.tmp 27) rfl z X (I4.out.below ST.out hB3).xb rfl rfl ?_
            have hH4 := hH3.trans (fr_row (S := fun k => k = X) (W := V3) rfl (EA.cells z).toArray) (fun _ h => h) (fun _ _ h => h)
            refine hK.out _ _ hH4 (fun _ => ?_)
            clear hK
            try simp only [List.getElem_toArray, List.getElem_cons_zero, List.getElem_cons_succ, Act.put, List.setIfInBounds_toArray, List.set_cons_zero, List.set_cons_succ]
            refine wpAnyH_take (i := 11) (v := .bool t) rfl (by kernel_rfl) (by kernel_rfl) (by kernel_rfl) (fun _ _ _ h => h) (.inl ⟨by rfl, ?_⟩) (by assumption) ?_
            · intro W hW; go_simp
            try simp only [List.getElem_toArray, List.getElem_cons_zero, List.getElem_cons_succ, Act.put, List.setIfInBounds_toArray, List.set_cons_zero, List.set_cons_succ]
            refine wpAnyH_done (by decide +kernel) ?_ _
            have I5 := Lib.hid (I4.out.below ST.out hB3)
            have J5 := Lib.hid (CJ.out.grow (by have := HX0.out; have := (Array.getElem?_eq_some_iff.1 I4.out.xb).1; omega) hB3 J4.out)
            have I6 := Lib.hid (I5.out.put ST.out NX1.out z)
            have J6 := Lib.hid (I5.out.calm CJ.out HX0.out z J5.out)
            have hzn : t = decide (k + 1 < ls.length) ∧ ∀ x, ls[k + 1]? = some x → z = x := by
              have e := HO.out
              constructor
              · rw [← HT0.out, e]
                rcases Nat.lt_or_ge (k + 1) ls.length with c | c
                · rw [List.getElem?_eq_getElem c, decide_eq_true c]; rfl
                · rw [List.getElem?_eq_none c, decide_eq_false (by omega)]; rfl
              · intro x hx
                rw [← HZ0.out, e, hx]; rfl
            have HZN := Lib.hid hzn
            clear hzn
            go_roundw
            case rel =>
              refine ⟨_, _, _, _, _, _, _, _, _, _, _, _, _, _, _, _, _, ⟨k + 1, z, pre ++ [y], ?_, LT.out, HZN.out.2, PX.out, I6.out, J6.out⟩, rfl⟩
              rw [HZN.out.1]
            case measure =>
              show _ < ls.length - _
              rw [MS.out]
              have hLT := LT.out
              rw [HZN.out.1]
              rcases Nat.lt_or_ge (k + 1) ls.length with cc | cc
              · rw [decide_eq_true cc]
                obtain ⟨z', hz'⟩ : ∃ z', ls[k + 1]? = some z' := ⟨ls[k + 1], List.getElem?_eq_getElem cc⟩
                obtain rfl := HZN.out.2 z' hz'
                show ls.length - _ < _
                rw [RI.out.pos injA I6.out.xb hz']
                omega
              · rw [decide_eq_false (by omega)]
                show 0 < _
                omega
        · gi_wp2
          refine bodyPost_end (results_none rfl _ _ _) rfl ?_
          exact ⟨⟨_, rfl⟩, .inr ⟨_, by rw [PX.out]; exact List.take_prefix _ _, hJx⟩⟩
      · obtain rfl : k = ls.length := by omega
        rw [decide_eq_false (Nat.lt_irrefl _)]
        gi_wp2
        refine ⟨fun f e => (by cases e), ?_⟩
        gi_wp2
        refine bodyPost_end (results_none rfl _ _ _) rfl ?_
        exact ⟨⟨_, rfl⟩, .inl ⟨pre, by rw [PR.out, List.take_of_length_le (Nat.le_refl _)], JJ.out⟩⟩)
  clear h1
  have CC1 : Hid (∀ U, Below W.heap.size W U → U.cell? ⟨C1, 0, none⟩ = some (.func (.func af) #[.pointer (some ⟨g, 0, none⟩)] #[])) := Lib.hid fun U q => same_cell (q.block C1 (TL.out C1 HT12.out.1)) c1
  have CC2 : Hid (∀ U, Below W.heap.size W U → U.cell? ⟨C2, 0, none⟩ = some (.func (.func nf) #[] lb)) := Lib.hid fun U q => same_cell (q.block C2 (TL.out C2 HT12.out.2.1)) c2
  have FIN : Hid (∀ (o : Option Ac) (X : Nat) (y : Ac) (t : Bool) (V : World), o = ls[0]? → o.getD zeroAc = y → o.isSome = t → W.heap.size ≤ X → Below W.heap.size W V → EA.Bx 33 V X y → K1 { tmps := #[.func (.yield l0) #[] #[], .pointer (some ⟨C1, 0, none⟩), .pointer (some ⟨C2, 0, none⟩), undef, .pointer (some ⟨X, 0, none⟩), .bool t, .tuple #[.agg (EA.cells y).toArray, .bool t], .func (.func af) #[.pointer (some ⟨g, 0, none⟩)] #[], .map (some b), .func (.func nf) #[] lb, .tuple #[.agg (EA.cells y).toArray, .bool t], .agg (EA.cells y).toArray, .bool t, undef, undef, undef, undef, undef, undef, undef, undef, undef, undef, undef, undef, undef, undef, undef, undef], defers := [] } V) := Lib.hid fun o X y t V e hy ht hX q hb => by
    refine REST.out X y t V ?_ ?_ hX q hb
    · rw [← ht, e]
      rcases Nat.lt_or_ge 0 ls.length with c | c
      · rw [List.getElem?_eq_getElem c, decide_eq_true c]; rfl
      · rw [List.getElem?_eq_none c, decide_eq_false (by omega)]; rfl
    · intro x hx
      rw [← hy, e, hx]; rfl
  clear REST
  refine wpIn_wide.2 ?_
  refine wp_region_held_drew (S := fun U => Below W.heap.size W U) (by kernel_rfl) (Below.refl _ _).drew (fun hH => ?_)
  refine wpAnyH_take (i := 0) (v := .func (.func af) #[.pointer (some ⟨g, 0, none⟩)] #[]) rfl (by kernel_rfl) (by kernel_rfl) (by kernel_rfl) (fun _ _ _ h => h) (.inl ⟨by rfl, ?_⟩) (by assumption) ?_
  · intro W hW; have h0 := CC1.out W hW; go_simp
  try simp only [List.getElem_toArray, List.getElem_cons_zero, List.getElem_cons_succ, Act.put, List.setIfInBounds_toArray, List.set_cons_zero, List.set_cons_succ]
  refine wpAnyH_take (i := 2) (v := .func (.func nf) #[] lb) rfl (by kernel_rfl) (by kernel_rfl) (by kernel_rfl) (fun _ _ _ h => h) (.inl ⟨by rfl, ?_⟩) (by assumption) ?_
  · intro W hW; have h0 := CC2.out W hW; go_simp
  try simp only [List.getElem_toArray, List.getElem_cons_zero, List.getElem_cons_succ, Act.put, List.setIfInBounds_toArray, List.set_cons_zero, List.set_cons_succ]
  refine wpAnyH_ready (rs := [1, 7]) (by decide +kernel) (by simp) (AllReadyH.cons rfl (fun KQ hK => ?_) (AllReadyH.cons rfl (fun KQ hK => ?_) AllReadyH.nil))
  · go_simp
    refine (ALLW.out _ (fun k hk => (hH).block k (TL.out k hk))).mono ?_; rintro e0 V1 ⟨rfl, rfl⟩
    refine hK.out _ _ hH (fun _ => ?_)
    clear hK
    try simp only [List.getElem_toArray, List.getElem_cons_zero, List.getElem_cons_succ, Act.put, List.setIfInBounds_toArray, List.set_cons_zero, List.set_cons_succ]
    refine wpAnyH_ready (rs := [3, 7]) (by decide +kernel) (by simp) (AllReadyH.cons rfl (fun KQ hK => ?_) (AllReadyH.cons rfl (fun KQ hK => ?_) AllReadyH.nil))
    · go_simp
      refine (NX0.out _ hH).mono ?_; rintro e0 V2 ⟨o, hbst, rfl, q2⟩
      have HO := Lib.hid (RI.out.first hbst)
      have hH2 := hH.trans (q2.mono hH.size)
      refine hK.out _ _ hH2 (fun _ => ?_)
      obtain ⟨y, hy⟩ : ∃ y, o.getD zeroAc = y := ⟨_, rfl⟩
      obtain ⟨t, ht⟩ : ∃ t, o.isSome = t := ⟨_, rfl⟩
      rw [hy, ht]
      have HY0 := Lib.hid hy
      have HT0 := Lib.hid ht
      clear hK hbst q2 hy ht
      try simp only [List.getElem_toArray, List.getElem_cons_zero, List.getElem_cons_succ, Act.put, List.setIfInBounds_toArray, List.set_cons_zero, List.set_cons_succ]
      refine wpAnyH_take (i := 4) (v := .tuple #[.agg (EA.cells y).toArray, .bool t]) rfl (by kernel_rfl) (by kernel_rfl) (by kernel_rfl) (fun _ _ _ h => h) (.inl ⟨by rfl, ?_⟩) (by assumption) ?_
      · intro W hW; go_simp
      try simp only [List.getElem_toArray, List.getElem_cons_zero, List.getElem_cons_succ, Act.put, List.setIfInBounds_toArray, List.set_cons_zero, List.set_cons_succ]
      refine wpAnyH_take (i := 5) (v := .agg (EA.cells y).toArray) rfl (by kernel_rfl) (by kernel_rfl) (by kernel_rfl) (fun _ _ _ h => h) (.inl ⟨by rfl, ?_⟩) (by assumption) ?_
      · intro W hW; go_simp
      try simp only [List.getElem_toArray, List.getElem_cons_zero, List.getElem_cons_succ, Act.put, List.setIfInBounds_toArray, List.set_cons_zero, List.set_cons_succ]
      refine wpAnyH_take (i := 6) (v := .bool t) rfl (by kernel_rfl) (by kernel_rfl) (by kernel_rfl) (fun _ _ _ h => h) (.inl ⟨by rfl, ?_⟩) (by assumption) ?_
      · intro W hW; go_simp
      try simp only [List.getElem_toArray, List.getElem_cons_zero, List.getElem_cons_succ, Act.put, List.setIfInBounds_toArray, List.set_cons_zero, List.set_cons_succ]
      refine wpAnyH_ready (rs := [7]) (by decide +kernel) (by simp) (AllReadyH.cons rfl (fun KQ hK => ?_) AllReadyH.nil)
      rw [if_pos (by rfl)]
      refine gwp_alloc 33 rfl zero_ac ?_
      have XGE : Hid (W.heap.size ≤ V2.heap.size) := Lib.hid hH2.size
      have hH3 := hH2.trans ((below_new V2 (.cells (EA.cells zeroAc).toArray 33)).mono hH2.size)
      have X1 := Lib.hid (gbx_new (E := EA) (te := 33) V2 zeroAc)
      refine hK.out _ _ hH3 (fun _ => ?_)
      clear hK
      try simp only [List.getElem_toArray, List.getElem_cons_zero, List.getElem_cons_succ, Act.put, List.setIfInBounds_toArray, List.set_cons_zero, List.set_cons_succ]
      refine wpAnyH_ready (rs := [8]) (by decide +kernel) (by simp) (AllReadyH.cons rfl (fun KQ hK => ?_) AllReadyH.nil)
      rw [if_pos (by rfl)]
      refine gwp_store TA (.tmp 4) (.tmp 11) rfl y V2.heap.size X1.out rfl rfl ?_
      have hE := below_row0 (cs := (EA.cells y).toArray) hH3 XGE.out
      refine hK.out _ _ hE (fun _ => ?_)
      have xE := Lib.hid (gbx_set (x := y) X1.out)
      clear hK
      try simp only [List.getElem_toArray, List.getElem_cons_zero, List.getElem_cons_succ, Act.put, List.setIfInBounds_toArray, List.set_cons_zero, List.set_cons_succ]
      refine wpAnyH_take (i := 9) (v := .bool t) rfl (by kernel_rfl) (by kernel_rfl) (by kernel_rfl) (fun _ _ _ h => h) (.inl ⟨by rfl, ?_⟩) (by assumption) ?_
      · intro W hW; go_simp
      try simp only [List.getElem_toArray, List.getElem_cons_zero, List.getElem_cons_succ, Act.put, List.setIfInBounds_toArray, List.set_cons_zero, List.set_cons_succ]
      refine wpAnyH_done (by decide +kernel) ?_ _
      exact FIN.out o _ y t _ HO.out HY0.out HT0.out XGE.out hE xE.out
    · rw [if_pos (by rfl)]
      refine gwp_alloc 33 rfl zero_ac ?_
      have XGE : Hid (W.heap.size ≤ W.drew.heap.size) := Lib.hid (Nat.le_refl _)
      have hH1 := hH.trans ((below_new W.drew (.cells (EA.cells zeroAc).toArray 33)).mono hH.size)
      have X1 := Lib.hid (gbx_new (E := EA) (te := 33) W.drew zeroAc)
      refine hK.out _ _ hH1 (fun _ => ?_)
      clear hK
      generalize hVA : W.drew.alloc (.cells (EA.cells zeroAc).toArray 33) = VA at *
      clear hVA
      try simp only [List.getElem_toArray, List.getElem_cons_zero, List.getElem_cons_succ, Act.put, List.setIfInBounds_toArray, List.set_cons_zero, List.set_cons_succ]
      refine wpAnyH_ready (rs := [3]) (by decide +kernel) (by simp) (AllReadyH.cons rfl (fun KQ hK => ?_) AllReadyH.nil)
      go_simp
      refine (NX0.out _ hH1).mono ?_; rintro e0 V2 ⟨o, hbst, rfl, q2⟩
      have HO := Lib.hid (RI.out.first hbst)
      have hH2 := hH1.trans (q2.mono hH1.size)
      refine hK.out _ _ hH2 (fun _ => ?_)
      obtain ⟨y, hy⟩ : ∃ y, o.getD zeroAc = y := ⟨_, rfl⟩
      obtain ⟨t, ht⟩ : ∃ t, o.isSome = t := ⟨_, rfl⟩
      rw [hy, ht]
      have HY0 := Lib.hid hy
      have HT0 := Lib.hid ht
      have X2 := Lib.hid (gbx_below X1.out q2)
      clear hK hbst q2 hy ht
      try simp only [List.getElem_toArray, List.getElem_cons_zero, List.getElem_cons_succ, Act.put, List.setIfInBounds_toArray, List.set_cons_zero, List.set_cons_succ]
      refine wpAnyH_take (i := 4) (v := .tuple #[.agg (EA.cells y).toArray, .bool t]) rfl (by kernel_rfl) (by kernel_rfl) (by kernel_rfl) (fun _ _ _ h => h) (.inl ⟨by rfl, ?_⟩) (by assumption) ?_
      · intro W hW; go_simp
      try simp only [List.getElem_toArray, List.getElem_cons_zero, List.getElem_cons_succ, Act.put, List.setIfInBounds_toArray, List.set_cons_zero, List.set_cons_succ]
      refine wpAnyH_take (i := 5) (v := .agg (EA.cells y).toArray) rfl (by kernel_rfl) (by kernel_rfl) (by kernel_rfl) (fun _ _ _ h => h) (.inl ⟨by rfl, ?_⟩) (by assumption) ?_
      · intro W hW; go_simp
      try simp only [List.getElem_toArray, List.getElem_cons_zero, List.getElem_cons_succ, Act.put, List.setIfInBounds_toArray, List.set_cons_zero, List.set_cons_succ]
      refine wpAnyH_take (i := 6) (v := .bool t) rfl (by kernel_rfl) (by kernel_rfl) (by kernel_rfl) (fun _ _ _ h => h) (.inl ⟨by rfl, ?_⟩) (by assumption) ?_
      · intro W hW; go_simp
      try simp only [List.getElem_toArray, List.getElem_cons_zero, List.getElem_cons_succ, Act.put, List.setIfInBounds_toArray, List.set_cons_zero, List.set_cons_succ]
      refine wpAnyH_ready (rs := [8]) (by decide +kernel) (by simp) (AllReadyH.cons rfl (fun KQ hK => ?_) AllReadyH.nil)
      rw [if_pos (by rfl)]
      refine gwp_store TA (.tmp 4) (.tmp 11) rfl y W.drew.heap.size X2.out rfl rfl ?_
      have hE := below_row0 (cs := (EA.cells y).toArray) hH2 XGE.out
      refine hK.out _ _ hE (fun _ => ?_)
      have xE := Lib.hid (gbx_set (x := y) X2.out)
      clear hK
      try simp only [List.getElem_toArray, List.getElem_cons_zero, List.getElem_cons_succ, Act.put, List.setIfInBounds_toArray, List.set_cons_zero, List.set_cons_succ]
      refine wpAnyH_take (i := 9) (v := .bool t) rfl (by kernel_rfl) (by kernel_rfl) (by kernel_rfl) (fun _ _ _ h => h) (.inl ⟨by rfl, ?_⟩) (by assumption) ?_
      · intro W hW; go_simp
      try simp only [List.getElem_toArray, List.getElem_cons_zero, List.getElem_cons_succ, Act.put, List.setIfInBounds_toArray, List.set_cons_zero, List.set_cons_succ]
      refine wpAnyH_done (by decide +kernel) ?_ _
      exact FIN.out o _ y t _ HO.out HY0.out HT0.out XGE.out hE xE.out
  · rw [if_pos (by rfl)]
    refine gwp_alloc 33 rfl zero_ac ?_
    have XGE : Hid (W.heap.size ≤ W.drew.heap.size) := Lib.hid (Nat.le_refl _)
    have hH1 := hH.trans ((below_new W.drew (.cells (EA.cells zeroAc).toArray 33)).mono hH.size)
    have X1 := Lib.hid (gbx_new (E := EA) (te := 33) W.drew zeroAc)
    refine hK.out _ _ hH1 (fun _ => ?_)
    clear hK
    generalize hVA : W.drew.alloc (.cells (EA.cells zeroAc).toArray 33) = VA at *
    clear hVA
    try simp only [List.getElem_toArray, List.getElem_cons_zero, List.getElem_cons_succ, Act.put, List.setIfInBounds_toArray, List.set_cons_zero, List.set_cons_succ]
    refine wpAnyH_ready (rs := [1]) (by decide +kernel) (by simp) (AllReadyH.cons rfl (fun KQ hK => ?_) AllReadyH.nil)
    go_simp
    refine (ALLW.out _ (fun k hk => (hH1).block k (TL.out k hk))).mono ?_; rintro e0 V1 ⟨rfl, rfl⟩
    refine hK.out _ _ hH1 (fun _ => ?_)
    clear hK
    try simp only [List.getElem_toArray, List.getElem_cons_zero, List.getElem_cons_succ, Act.put, List.setIfInBounds_toArray, List.set_cons_zero, List.set_cons_succ]
    refine wpAnyH_ready (rs := [3]) (by decide +kernel) (by simp) (AllReadyH.cons rfl (fun KQ hK => ?_) AllReadyH.nil)
    go_simp
    refine (NX0.out _ hH1).mono ?_; rintro e0 V2 ⟨o, hbst, rfl, q2⟩
    have HO := Lib.hid (RI.out.first hbst)
    have hH2 := hH1.trans (q2.mono hH1.size)
    refine hK.out _ _ hH2 (fun _ => ?_)
    obtain ⟨y, hy⟩ : ∃ y, o.getD zeroAc = y := ⟨_, rfl⟩
    obtain ⟨t, ht⟩ : ∃ t, o.isSome = t := ⟨_, rfl⟩
    rw [hy, ht]
    have HY0 := Lib.hid hy
    have HT0 := Lib.hid ht
    have X2 := Lib.hid (gbx_below X1.out q2)
    clear hK hbst q2 hy ht
    try simp only [List.getElem_toArray, List.getElem_cons_zero, List.getElem_cons_succ, Act.put, List.setIfInBounds_toArray, List.set_cons_zero, List.set_cons_succ]
    refine wpAnyH_take (i := 4) (v := .tuple #[.agg (EA.cells y).toArray, .bool t]) rfl (by kernel_rfl) (by kernel_rfl) (by kernel_rfl) (fun _ _ _ h => h) (.inl ⟨by rfl, ?_⟩) (by assumption) ?_
    · intro W hW; go_simp
    try simp only [List.getElem_toArray, List.getElem_cons_zero, List.getElem_cons_succ, Act.put, List.setIfInBounds_toArray, List.set_cons_zero, List.set_cons_succ]
    refine wpAnyH_take (i := 5) (v := .agg (EA.cells y).toArray) rfl (by kernel_rfl) (by kernel_rfl) (by kernel_rfl) (fun _ _ _ h => h) (.inl ⟨by rfl, ?_⟩) (by assumption) ?_
    · intro W hW; go_simp
    try simp only [List.getElem_toArray, List.getElem_cons_zero, List.getElem_cons_succ, Act.put, List.setIfInBounds_toArray, List.set_cons_zero, List.set_cons_succ]
    refine wpAnyH_take (i := 6) (v := .bool t) rfl (by kernel_rfl) (by kernel_rfl) (by kernel_rfl) (fun _ _ _ h => h) (.inl ⟨by rfl, ?_⟩) (by assumption) ?_
    · intro W hW; go_simp
    try simp only [List.getElem_toArray, List.getElem_cons_zero, List.getElem_cons_succ, Act.put, List.setIfInBounds_toArray, List.set_cons_zero, List.set_cons_succ]
    refine wpAnyH_ready (rs := [8]) (by decide +kernel) (by simp) (AllReadyH.cons rfl (fun KQ hK => ?_) AllReadyH.nil)
    rw [if_pos (by rfl)]
    refine gwp_store TA (.tmp 4) (.tmp 11) rfl y W.drew.heap.size X2.out rfl rfl ?_
    have hE := below_row0 (cs := (EA.cells y).toArray) hH2 XGE.out
    refine hK.out _ _ hE (fun _ => ?_)
    have xE := Lib.hid (gbx_set (x := y) X2.out)
    clear hK
    try simp only [List.getElem_toArray, List.getElem_cons_zero, List.getElem_cons_succ, Act.put, List.setIfInBounds_toArray, List.set_cons_zero, List.set_cons_succ]
    refine wpAnyH_take (i := 9) (v := .bool t) rfl (by kernel_rfl) (by kernel_rfl) (by kernel_rfl) (fun _ _ _ h => h) (.inl ⟨by rfl, ?_⟩) (by assumption) ?_
    · intro W hW; go_simp
    try simp only [List.getElem_toArray, List.getElem_cons_zero, List.getElem_cons_succ, Act.put, List.setIfInBounds_toArray, List.set_cons_zero, List.set_cons_succ]
    refine wpAnyH_done (by decide +kernel) ?_ _
    exact FIN.out o _ y t _ HO.out HY0.out HT0.out XGE.out hE xE.out
end Go.Proofs.Ythnmpnepgagmmaa
