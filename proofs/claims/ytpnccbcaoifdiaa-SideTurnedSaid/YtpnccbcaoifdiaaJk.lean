/- The program's side: what All tells. -/
import Derived.Test.YtpnccbcaoifdiaaJh
import Derived.Test.YtpnccbcaoifdiaaRi
namespace Go.Proofs.Ytpnccbcaoifdiaa
open Go.RowKit Go.Shelf
set_option linter.unusedVariables false

theorem st_inj {x y : St} (h : ESt.cells x = ESt.cells y) : x = y := by
  obtain ⟨⟨a, b, c, d, e⟩, f⟩ := x
  obtain ⟨⟨a', b', c', d', e'⟩, f'⟩ := y
  simp only [ESt, St.cells, List.cons.injEq, Value.int.injEq, Value.bool.injEq, true_and, and_true] at h
  obtain ⟨rfl, rfl, rfl, rfl, rfl, rfl⟩ := h
  rfl
theorem bx_uniq {W : World} {X : Nat} {x y : St} (h : ESt.Bx 66 W X x) (k : ESt.Bx 66 W X y) : x = y := by
  have e := Option.some.inj (h.symm.trans k)
  injection e with e _ _
  exact st_inj (by simpa using e)
/-- Where the one that lies in block X stands. -/
theorem pos_of {buy : Bool} {l : List St} {W : World} {X k : Nat} {y : St} (ha : l.Pairwise fun x y => ahB buy x y = true) (hx : ESt.Bx 66 W X y) (hk : l[k]? = some y) :
    l.findIdx (fun z => @decide (ESt.Bx 66 W X z) (Classical.propDecidable _)) = k := by
  obtain ⟨hl, hg⟩ := List.getElem?_eq_some_iff.1 hk
  rw [List.findIdx_eq hl]
  refine ⟨by rw [hg]; simpa using hx, fun j hj => ?_⟩
  have hjl : j < l.length := by omega
  have hp := List.pairwise_iff_getElem.1 ha j k hjl hl hj
  simp only [decide_eq_false_iff_not]
  intro c
  have e := bx_uniq c hx
  rw [e, hg, ahB_irr] at hp
  cases hp
/-- Who stands behind the one at k. -/
theorem gidx_behind {buy : Bool} {l : List St} {k : Nat} {a : St} (ha : l.Pairwise fun x y => ahB buy x y = true) (hk : l[k]? = some a) :
    (∀ y, l[k + 1]? = some y → gidx (ahB buy a) l = ((k + 1 : Nat) : Int)) ∧ (l.length ≤ k + 1 → gidx (ahB buy a) l = -1) := by
  obtain ⟨hl, hg⟩ := List.getElem?_eq_some_iff.1 hk
  have hlow : ∀ (j : Nat) (y : St), j < k + 1 → l[j]? = some y → ahB buy a y = false := fun j y hj hy => by
    obtain ⟨hjl, hgj⟩ := List.getElem?_eq_some_iff.1 hy
    rcases Nat.lt_or_ge j k with c | c
    · have hp := List.pairwise_iff_getElem.1 ha j k hjl hl c
      rw [hgj, hg] at hp
      exact ahB_as hp
    · obtain rfl : j = k := by omega
      rw [← hgj, hg]
      exact ahB_irr buy a
  refine ⟨fun y hy => ?_, fun h => ?_⟩
  · obtain ⟨hyl, hgy⟩ := List.getElem?_eq_some_iff.1 hy
    have hp := List.pairwise_iff_getElem.1 ha k (k + 1) hl hyl (by omega)
    rw [hg, hgy] at hp
    unfold gidx
    rw [gidx_hit hy hp hlow]
  · unfold gidx
    rw [gidx_miss (fun j y hy => hlow j y (by have := (List.getElem?_eq_some_iff.1 hy).1; omega) hy)]
/-- Within the iterator: the side, the iterator's variable, a block of its own with the one told last. -/
structure ItS (S : World → Nat → Prop) (N C g X : Nat) (v : Value) (buy : Bool) (c : Int) (l : List St) (y : St) (W : World) : Prop where
  ds : Ds W g v buy c l
  cb : W.heap[C]? = some (.cells #[.pointer (some ⟨g, 0, none⟩)] 23 (0, 0))
  xb : ESt.Bx 66 W X y
  sz : N ≤ W.heap.size
  wf : ∀ k, S W k → k < W.heap.size
  ap : ∀ k, (k = C ∨ DsS g v k ∨ k = X) → ¬ S W k
  nX : ∀ k, (k = C ∨ DsS g v k) → k ≠ X
section
variable {S : World → Nat → Prop} {N C g X : Nat} {v : Value} {buy : Bool} {c : Int} {l : List St} {y : St} {W W' : World}
theorem ItS.cl (h : ItS S N C g X v buy c l y W) : W.cell? ⟨C, 0, none⟩ = some (.pointer (some ⟨g, 0, none⟩)) := by rw [cell_of_row _ _ _ _ _ _ h.cb]; rfl
theorem ItS.lt (h : ItS S N C g X v buy c l y W) {k : Nat} (hk : k = C ∨ DsS g v k ∨ k = X) : k < W.heap.size := by
  rcases hk with rfl | hk | rfl
  · exact (Array.getElem?_eq_some_iff.1 h.cb).1
  · exact h.ds.sl hk
  · exact (Array.getElem?_eq_some_iff.1 h.xb).1
theorem ItS.below (st : Still S N) (h : ItS S N C g X v buy c l y W) (q : Below W.heap.size W W') : ItS S N C g X v buy c l y W' := by
  have s := st W W' h.sz (fun k hk => q.block k (Nat.lt_of_lt_of_le hk h.sz))
  exact ⟨h.ds.below q, (q.block C (Array.getElem?_eq_some_iff.1 h.cb).1).trans h.cb, gbx_below h.xb q, Nat.le_trans h.sz q.size, fun k hk => Nat.lt_of_lt_of_le (h.wf k (s k hk)) q.size, fun k hk c => h.ap k hk (s k c), h.nX⟩
theorem ItS.kept (h : ItS S N C g X v buy c l y W) (k : Kc S W W') : ItS S N C g X v buy c l y W' := by
  obtain ⟨h1, h2, h3, h4⟩ := k h.wf
  refine ⟨h.ds.same fun j hj hc => h4 j (h.lt (.inr (.inl hj))) (h.ap j (.inr (.inl hj))) hc, (h4 C (h.lt (.inl rfl)) (h.ap C (.inl rfl)) ⟨_, _, _, h.cb⟩).trans h.cb,
    (h4 X (h.lt (.inr (.inr rfl))) (h.ap X (.inr (.inr rfl))) ⟨_, _, _, h.xb⟩).trans h.xb, Nat.le_trans h.sz h3.size, h1, fun j hj c => ?_, h.nX⟩
  rcases h2 j c with c | c
  · exact h.ap j hj c
  · have := h.lt hj; omega
theorem ItS.put (st : Still S N) (h : ItS S N C g X v buy c l y W) (hX : N ≤ X) (z : St) : ItS S N C g X v buy c l z (W.setRow X (ESt.cells z).toArray) := by
  have f : Fr (fun k => k = X) W (W.setRow X (ESt.cells z).toArray) := fr_row (S := fun k => k = X) rfl _
  have s := st W (W.setRow X (ESt.cells z).toArray) h.sz (fun k hk => setRow_other W X k _ (by omega))
  exact ⟨h.ds.keep f (fun k hk => h.nX k (.inr hk)), (f.at' C (h.lt (.inl rfl)) (h.nX C (.inl rfl))).trans h.cb, gbx_set h.xb, Nat.le_trans h.sz f.size, fun k hk => Nat.lt_of_lt_of_le (h.wf k (s k hk)) f.size, fun k hk c => h.ap k hk (s k c), h.nX⟩
/-- What hangs on other blocks stays as the block is written. -/
theorem ItS.calm {β : Type} {B : Nat} {J : β → World → Prop} (cJ : Calm B S J) (h : ItS S N C g X v buy c l y W) (hX : B ≤ X) (z : St) {s : β} (j : J s W) : J s (W.setRow X (ESt.cells z).toArray) := by
  refine cJ s W _ j (below_row0 (Below.refl B W) hX) (fun k hk hc => setRow_other W X k _ (fun e => ?_))
  subst e
  exact h.ap k (.inr (.inr rfl)) hk
end
theorem wlIn_load_org {n : Nat} {ops : Array Oper} {rest : List Oper} {a : Act} {w : World} {Q : Exit → Act → World → Prop} {d : Option Nat} {x : Operand} {ty : TypeId} {ps : String} {af : Array Edge} {gd : Option (Nat × Bool)} {s : Or} (b o : Nat) (hb : w.rangeAt b o (EO.cells s))
    (hw : Region.wanted ⟨d, .load 33 x, ty, ps, af, gd⟩ (yielded ops a.tmps) = true) (hx : a.eval x = .pointer (some ⟨b, o, none⟩)) (h : wpListIn Fence.wide n Try.prog ops Q rest (a.put d (.agg (EO.cells s).toArray)) w) : wpListIn Fence.wide n Try.prog ops Q (⟨d, .load 33 x, ty, ps, af, gd⟩ :: rest) a w :=
  wpListIn_step fun K hK => by
    rw [if_pos hw]
    obtain ⟨fs, hu⟩ := TO.row
    exact op_wide (fun c e => by cases e) (wp_load_mid 33 x rfl b o hx (EO.cells s) _ hb hu rfl (by rw [gsize TO, EO.len]) (hK _ _ h))
/-- first, behind: one answer for each. -/
theorem sfirst_any {g : Nat} {v : Value} {buy : Bool} {c : Int} {l : List St} {w : World} (h : Ds w g v buy c l) : ∃ y b, (b = decide (0 < l.length) ∧ ∀ x, l[0]? = some x → y = x) ∧
    Calls Try.prog 36 #[.pointer (some ⟨g, 0, none⟩)] w fun e w' => e = .returned (.tuple #[.agg (ESt.cells y).toArray, .bool b]) ∧ Below w.heap.size w w' := by
  cases l with
  | nil => exact ⟨zeroSt, false, ⟨rfl, fun x hx => by cases hx⟩, sfirst_none h⟩
  | cons x r => exact ⟨x, true, ⟨by simp, fun z hz => by simpa using hz⟩, sfirst_some h⟩
theorem sbehind_any {g : Nat} {v : Value} {buy : Bool} {c : Int} {l : List St} {w : World} (h : Ds w g v buy c l) {k : Nat} {a : St} (hk : l[k]? = some a) : ∃ y b, (b = decide (k + 1 < l.length) ∧ ∀ x, l[k + 1]? = some x → y = x) ∧
    Calls Try.prog 46 #[.pointer (some ⟨g, 0, none⟩), .agg (ESt.cells a).toArray] w fun e w' => e = .returned (.tuple #[.agg (ESt.cells y).toArray, .bool b]) ∧ Below w.heap.size w w' := by
  obtain ⟨h1, h2⟩ := gidx_behind h.asc hk
  rcases Nat.lt_or_ge (k + 1) l.length with c | c
  · obtain ⟨x, hx⟩ : ∃ x, l[k + 1]? = some x := ⟨l[k + 1], List.getElem?_eq_getElem c⟩
    exact ⟨x, true, ⟨(decide_eq_true c).symm, fun z hz => by rw [hx] at hz; cases hz; rfl⟩, sbehind_some a h (h1 x hx) hx⟩
  · exact ⟨zeroSt, false, ⟨(decide_eq_false (by omega)).symm, fun z hz => by have := (List.getElem?_eq_some_iff.1 hz).1; omega⟩, sbehind_none a h (h2 c)⟩
set_option maxRecDepth 100000 in
set_option maxHeartbeats 2000000 in
theorem sall1_in (n l0 : Nat) (hn : 1 ≤ n) {S : World → Nat → Prop} {N C g : Nat} {v : Value} {buy : Bool} {c : Int} {l : List St} (st : Still S N) (J Jx : List OkOr → World → Prop) (W : World) (hNW : N ≤ W.heap.size) (cJ : Calm W.heap.size S J)
    (hY : ∀ pre x W1, J pre W1 → pre.length < (osOf l).length → YieldAt Fence.wide (n - 1) Try.prog l0 #[.agg (EO.cells x.1).toArray] W1 fun e W' =>
      (e = .returned (.bool true) ∧ J (pre ++ [x]) W' ∧ Kc S W1 W') ∨ (e = .returned (.bool false) ∧ Jx (pre ++ [x]) W'))
    (hd : Ds W g v buy c l) (hC : W.heap[C]? = some (.cells #[.pointer (some ⟨g, 0, none⟩)] 23 (0, 0))) (wf : ∀ k, S W k → k < W.heap.size) (ap : ∀ k, (k = C ∨ DsS g v k) → ¬ S W k) (h0 : J [] W) :
    CallsIn Fence.wide n Try.prog 45 #[.func (.yield l0) #[] #[], .pointer (some ⟨C, 0, none⟩)] W fun e W' => (∃ v, e = .returned v) ∧
      ((∃ xs, valsO xs = osOf l ∧ J xs W') ∨ (∃ pre, valsO pre <+: osOf l ∧ Jx pre W')) := by
  obtain ⟨y0, b0, ⟨hb0, hy0⟩, F⟩ := sfirst_any hd
  have DW := Lib.hid hd
  have OK := Lib.hid hd.ok
  have ASC := Lib.hid hd.asc
  have cl : W.cell? ⟨C, 0, none⟩ = some (.pointer (some ⟨g, 0, none⟩)) := by rw [cell_of_row _ _ _ _ _ _ hC]; rfl
  have HC := Lib.hid hC
  have WF := Lib.hid wf
  have AP := Lib.hid ap
  have CJ := Lib.hid cJ
  have HY := Lib.hid hY
  have ST := Lib.hid st
  have J0 := Lib.hid h0
  have HB0 := Lib.hid hb0
  have HY0 := Lib.hid hy0
  have NW := Lib.hid hNW
  have ZS := Lib.hid fun W1 : World => gbx_new (E := ESt) (te := 66) W1 zeroSt
  have hz := zero_st
  clear hd hC wf ap cJ hY st h0 hb0 hy0 hNW
  refine callsIn_of_wp Try.func45 rfl trivial ?_ rfl
  simp only [Try.ntmps45, List.size_toArray, List.length_cons, List.length_nil, Nat.reduceAdd, Nat.reduceSub, Array.replicate_succ, Array.replicate_zero, List.push_toArray, List.append_toArray, List.nil_append, List.cons_append]
  apply wpIn_seq_k; intro K1 h1
  refine wpIn_wide.2 ?_
  go_wp2_with fail
  refine F.mono ?_; rintro e w1 ⟨rfl, q⟩
  have Q := Lib.hid q
  have Z1 := Lib.hid (ZS.out w1)
  clear q
  go_wp2_with (refine gwl_store TSt y0 w1.heap.size Z1.out rfl rfl ?_)
  obtain ⟨w3, hw3⟩ : ∃ w3, (w1.alloc (.cells (ESt.cells zeroSt).toArray 66)).setRow w1.heap.size (ESt.cells y0).toArray = w3 := ⟨_, rfl⟩
  rw [hw3]
  have q3 : Below W.heap.size W w3 := by rw [← hw3]; exact Q.out.trans ((row_inS (Nat.le_refl _) (below_new w1 _)).mono Q.out.size)
  have xb : ESt.Bx 66 w3 w1.heap.size y0 := by rw [← hw3]; exact gbx_set Z1.out
  have hX : W.heap.size ≤ w1.heap.size := Q.out.size
  have s3 := ST.out W w3 NW.out (fun k hk => q3.block k (Nat.lt_of_lt_of_le hk NW.out))
  have cC : C < W.heap.size := (Array.getElem?_eq_some_iff.1 HC.out).1
  have I3 : Hid (ItS S N C g w1.heap.size v buy c l y0 w3) := Lib.hid ⟨DW.out.below q3, (q3.block C cC).trans HC.out, xb, Nat.le_trans NW.out q3.size, fun k hk => Nat.lt_of_lt_of_le (WF.out k (s3 k hk)) q3.size, fun k hk e => by
    rcases hk with rfl | hk | rfl
    · exact AP.out _ (.inl rfl) (s3 _ e)
    · exact AP.out _ (.inr hk) (s3 _ e)
    · have := WF.out _ (s3 _ e); omega, fun k hk => by
    rcases hk with rfl | hk
    · omega
    · have := DW.out.sl hk; omega⟩
  have J3 := Lib.hid (CJ.out.grow (Nat.le_refl _) q3 J0.out)
  have HX0 := Lib.hid hX
  have NX : Hid (N ≤ w1.heap.size) := Lib.hid (Nat.le_trans NW.out hX)
  generalize w1.heap.size = X at *
  clear q3 xb hX s3 cC hw3 Z1 Q
  refine wpIn_block ?_
  gi_loopw [4] (fun t wr => ∃ (k : Nat) (y : St) (pre : List OkOr), t = .bool (decide (k < l.length)) ∧ k ≤ l.length ∧ (∀ x, l[k]? = some x → y = x) ∧ valsO pre = (osOf l).take k ∧ ItS S N C g X v buy c l y wr ∧ J pre wr)
    (fun t wr => match t with | .bool true => l.length - l.findIdx (fun z => @decide (ESt.Bx 66 wr X z) (Classical.propDecidable _)) | _ => 0)
  case atStart => exact ⟨0, y0, [], by rw [HB0.out], Nat.zero_le _, HY0.out, rfl, I3.out, J3.out⟩
  case round =>
    obtain ⟨k, y, pre, rfl, hk, hy, hpre, hit, hJ⟩ := hrel
    have IT := Lib.hid hit
    have JJ := Lib.hid hJ
    have PR := Lib.hid hpre
    have cl := hit.cl
    rcases Nat.lt_or_ge k l.length with hlt | hge
    · obtain ⟨x, hx⟩ : ∃ x, l[k]? = some x := ⟨l[k], List.getElem?_eq_getElem hlt⟩
      obtain rfl := hy x hx
      have HX := Lib.hid hx
      have XO := Lib.hid (OK.out y (List.mem_of_getElem? hx))
      have LT := Lib.hid hlt
      have hpl : pre.length < (osOf l).length := by
        have := congrArg List.length hpre
        rw [valsO_len, List.length_take, osOf_len] at this
        rw [osOf_len]
        omega
      have MS := Lib.hid (pos_of ASC.out hit.xb hx)
      obtain ⟨fn, tmps, assign, body, hyl, hR⟩ := HY.out pre ⟨y.o, XO.out.o⟩ wr hJ hpl
      have HR := Lib.hid hR
      have RG := Lib.hid (st_or (gbx_rng hit.xb))
      have PX : Hid (valsO (pre ++ [⟨y.o, XO.out.o⟩]) = (osOf l).take (k + 1)) := Lib.hid (by rw [valsO_snoc, hpre, List.take_add_one, osOf_at hx]; rfl)
      rw [decide_eq_true hlt]
      clear hit hJ hy hpre hx hR hlt hpl
      apply wpIn_seq_k; intro K2 h2
      have H2 := Lib.hid h2
      clear h2
      gi_wp2_with ((with_reducible refine wlIn_load_org X 0 RG.out ?_ ?_ ?_); rfl; rfl)
      refine HR.out.mono ?_
      rintro e W4 (⟨rfl, hJ4, hk4⟩ | ⟨rfl, hJx⟩)
      · have I4 := Lib.hid (IT.out.kept hk4)
        have J4 := Lib.hid hJ4
        clear hJ4 hk4
        have cl4 := I4.out.cl
        gi_wp2
        refine H2.out _ _ ?_
        refine wpIn_block ?_
        refine wpIn_wide.2 ?_
        obtain ⟨z, b, ⟨hb, hz'⟩, BH⟩ := sbehind_any I4.out.ds HX.out
        have HB := Lib.hid hb
        have HZ := Lib.hid hz'
        have RG4 := Lib.hid (gbx_rng I4.out.xb)
        clear hb hz'
        go_wp2_with ((with_reducible refine gwl_load TSt X 0 RG4.out ?_ ?_ ?_); rfl; rfl)
        refine BH.mono ?_; rintro e w5 ⟨rfl, q⟩
        have I5 := Lib.hid (I4.out.below ST.out q)
        have J5 := Lib.hid (CJ.out.grow (by have := HX0.out; have := I4.out.lt (.inr (.inr rfl)); omega) q J4.out)
        clear q
        go_wp2_with (refine gwl_store TSt z X I5.out.xb rfl rfl ?_)
        have h6 := (HX0.out)
        have hB : W.heap.size ≤ X := HX0.out
        refine ⟨⟨k + 1, z, pre ++ [⟨y.o, XO.out.o⟩], by rw [HB.out], LT.out, HZ.out, PX.out, I5.out.put ST.out NX.out z, I5.out.calm CJ.out hB z J5.out⟩, ?_⟩
        show _ < l.length - _
        rw [MS.out]
        have hLT := LT.out
        rw [HB.out]
        rcases Nat.lt_or_ge (k + 1) l.length with c1 | c1
        · rw [decide_eq_true c1]
          obtain ⟨z', hz'⟩ : ∃ z', l[k + 1]? = some z' := ⟨l[k + 1], List.getElem?_eq_getElem c1⟩
          obtain rfl := HZ.out z' hz'
          show l.length - _ < _
          rw [pos_of ASC.out (I5.out.put ST.out NX.out z).xb hz']
          omega
        · rw [decide_eq_false (by omega)]
          show 0 < _
          omega
      · gi_wp2
        refine bodyPost_end (results_none rfl _ _ _) rfl ?_
        exact ⟨⟨_, rfl⟩, .inr ⟨_, by rw [PX.out]; exact List.take_prefix _ _, hJx⟩⟩
    · obtain rfl : k = l.length := by omega
      rw [decide_eq_false (Nat.lt_irrefl _)]
      gi_wp2
      refine ⟨fun f e => (by cases e), ?_⟩
      gi_wp2
      refine bodyPost_end (results_none rfl _ _ _) rfl ?_
      exact ⟨⟨_, rfl⟩, .inl ⟨pre, by rw [PR.out, List.take_of_length_le (by rw [osOf_len]; exact Nat.le_refl _)], JJ.out⟩⟩
end Go.Proofs.Ytpnccbcaoifdiaa
