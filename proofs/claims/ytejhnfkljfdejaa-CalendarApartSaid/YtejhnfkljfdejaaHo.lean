/- The program's calendar: All tells the contracts. -/
import Derived.Test.YtejhnfkljfdejaaHn
import Derived.Test.YtejhnfkljfdejaaRi
namespace Go.Proofs.Ytejhnfkljfdejaa
open Go.RowKit Go.Shelf
set_option linter.unusedVariables false

section
variable {P : Program} {n : Nat} {ops : Array Oper} {Q : Exit → Act → World → Prop}
theorem rows_wide {row : String} {args : Array Value} {w : World} {R : Value → World → Prop} (h : Rows P row args w R) : RowsIn Fence.wide n P row args w R :=
  fun c cs _ => let ⟨v, w', r, s⟩ := h c cs; ⟨v, w', r, stepsIn_wide.2 s⟩
theorem op_wide {o : Oper} {a : Act} {w : World} {next : Act → World → Prop} (hd : ∀ c, o.op ≠ .defer c) (h : o.wp P a w next Q) : o.wpIn Fence.wide n P a w next Q := by
  refine ⟨fun _ _ => trivial, ?_⟩
  rw [Oper.semAt_plain _ _ _ hd]
  unfold Oper.wp at h
  generalize (execOp a.eval o).run P w = r at h ⊢
  cases r with
  | ok v w' => cases v with
    | value v => exact h
    | skip => exact h
    | defer d => exact h
    | enter f args =>
      refine ⟨fun c => ?_, callsIn_wide.2 (Calls.mono h ?_)⟩
      · cases c
      · intro e w2 q
        cases e <;> exact q
    | row row args =>
      refine ⟨fun c => ?_, rows_wide h⟩
      cases c
    | _ => exact h.elim
  | halt x w' => cases x <;> first | exact h | exact h.elim
end
theorem wlIn_load_ctg {n : Nat} {ops : Array Oper} {rest : List Oper} {a : Act} {w : World} {Q : Exit → Act → World → Prop} {d : Option Nat} {x : Operand} {ty : TypeId} {ps : String} {af : Array Edge} {gd : Option (Nat × Bool)} {s : Ct} (b o : Nat) (hl : s.sp.sh.length = 16) (hb : w.rangeAt b o s.cellL)
    (hw : Region.wanted ⟨d, .load 45 x, ty, ps, af, gd⟩ (yielded ops a.tmps) = true) (hx : a.eval x = .pointer (some ⟨b, o, none⟩)) (h : wpListIn Fence.wide n Try.prog ops Q rest (a.put d (.agg s.cells)) w) : wpListIn Fence.wide n Try.prog ops Q (⟨d, .load 45 x, ty, ps, af, gd⟩ :: rest) a w :=
  wpListIn_step fun K hK => by
    rw [if_pos hw]
    exact op_wide (fun c e => by cases e) (wp_load_mid 45 x rfl b o hx s.cellL _ hb Try.underlying45 rfl (by rw [info_cs, Ct.lenL hl]) (hK _ _ h))
/-- Within the iterator. -/
structure It (S : World → Nat → Prop) (N C g : Nat) (v : Value) (d : Int) (cs : List Ct) (W : World) : Prop where
  rp : Rp W g v d cs
  cb : W.heap[C]? = some (.cells #[.pointer (some ⟨g, 0, none⟩)] 23 (0, 0))
  sz : N ≤ W.heap.size
  wf : ∀ k, S W k → k < W.heap.size
  ap : ∀ k, (k = C ∨ RcS g v k) → ¬ S W k
theorem Rp.same {W W' : World} {g : Nat} {v : Value} {d : Int} {cs : List Ct} (h : Rp W g v d cs) (hb : ∀ k, RcS g v k → (∃ c t f, W.heap[k]? = some (.cells c t f)) → W'.heap[k]? = W.heap[k]?) : Rp W' g v d cs := by
  refine ⟨(hb g (.inl rfl) ⟨_, _, _, h.blk⟩).trans h.blk, ?_, h.le, h.ok, h.dy, h.one, h.up, h.pos⟩
  refine ⟨h.own.1, ?_⟩
  rcases h.own.2 with e | ⟨b, c, cur, e, hb2, hh, r⟩
  · exact .inl e
  · exact .inr ⟨b, c, cur, e, hb2, (hb b (.inr (by rw [e]; rfl)) ⟨_, _, _, hh⟩).trans hh, r⟩
section
variable {S : World → Nat → Prop} {N C g : Nat} {v : Value} {d : Int} {cs : List Ct} {W W' : World}
theorem It.cl (h : It S N C g v d cs W) : W.cell? ⟨C, 0, none⟩ = some (.pointer (some ⟨g, 0, none⟩)) := by rw [cell_of_row _ _ _ _ _ _ h.cb]; rfl
theorem It.lt (h : It S N C g v d cs W) {k : Nat} (hk : k = C ∨ RcS g v k) : k < W.heap.size := by
  rcases hk with rfl | rfl | hk
  · exact (Array.getElem?_eq_some_iff.1 h.cb).1
  · exact h.rp.gl
  · exact h.rp.vl k hk
theorem It.below (st : Still S N) (h : It S N C g v d cs W) (q : Below W.heap.size W W') : It S N C g v d cs W' := by
  have s := st W W' h.sz (fun k hk => q.block k (Nat.lt_of_lt_of_le hk h.sz))
  exact ⟨h.rp.below q, (q.block C (Array.getElem?_eq_some_iff.1 h.cb).1).trans h.cb, Nat.le_trans h.sz q.size, fun k hk => Nat.lt_of_lt_of_le (h.wf k (s k hk)) q.size, fun k hk c => h.ap k hk (s k c)⟩
theorem It.kept (h : It S N C g v d cs W) (k : Kc S W W') : It S N C g v d cs W' := by
  obtain ⟨h1, h2, h3, h4⟩ := k h.wf
  refine ⟨h.rp.same fun j hj hc => h4 j (h.lt (.inr hj)) (h.ap j (.inr hj)) hc, (h4 C (h.lt (.inl rfl)) (h.ap C (.inl rfl)) ⟨_, _, _, h.cb⟩).trans h.cb, Nat.le_trans h.sz h3.size, h1, fun j hj c => ?_⟩
  rcases h2 j c with c | c
  · exact h.ap j hj c
  · have := h.lt hj; omega
end
theorem grown_of {w w' : World} (q : Below w.heap.size w w') : w.grownBy w' none := ⟨q.os, q.tape, q.output, q.size, fun k hk _ => q.block k hk⟩
theorem left_of {cs : List Ct} {t : Int} {k : Nat} (h1 : ∀ (j : Nat) (y : Ct), j < k → cs[j]? = some y → y.sp.nu ≤ t) (h2 : ∀ (j : Nat) (y : Ct), k ≤ j → cs[j]? = some y → t < y.sp.nu) (hk : k ≤ cs.length) : spotC cs (t + 1) = k :=
  spot_of (fun j y hj hy => by have := h1 j y hj hy; omega) (fun j y hj hy => by have := h2 j y hj hy; omega) hk
set_option maxRecDepth 100000 in
set_option maxHeartbeats 2000000 in
theorem all1_in (n l : Nat) (hn : 1 ≤ n) {S : World → Nat → Prop} {N C g : Nat} {v : Value} {d : Int} {cs : List Ct} (st : Still S N) (J Jx : List OkCt → World → Prop) (B : Nat) (aJ : AbidesFrom B J)
    (hY : ∀ pre x W, J pre W → pre.length < cs.length → YieldAt Fence.wide (n - 1) Try.prog l #[.agg x.1.cells] W fun e W' =>
      (e = .returned (.bool true) ∧ J (pre ++ [x]) W' ∧ Kc S W W') ∨ (e = .returned (.bool false) ∧ Jx (pre ++ [x]) W'))
    (W : World) (h : It S N C g v d cs W) (h0 : J [] W) :
    CallsIn Fence.wide n Try.prog 44 #[.func (.yield l) #[] #[], .pointer (some ⟨C, 0, none⟩)] W fun e W' => (∃ v, e = .returned v) ∧
      ((∃ xs, vals xs = cs ∧ J xs W') ∨ (∃ pre, vals pre <+: cs ∧ Jx pre W')) := by
  have H0 := Lib.hid h
  have PS := Lib.hid h.rp.pos
  have AJ := Lib.hid aJ
  have HY := Lib.hid hY
  have ST := Lib.hid st
  clear h aJ hY st
  refine callsIn_of_wp Try.func44 rfl trivial ?_ rfl
  simp only [Try.ntmps44, List.size_toArray, List.length_cons, List.length_nil, Nat.reduceAdd, Nat.reduceSub, Array.replicate_succ, Array.replicate_zero, List.push_toArray, List.append_toArray, List.nil_append, List.cons_append]
  gi_wp2
  gi_loopw [3] (fun t wr => ∃ (k : Nat) (tv : Int) (pre : List OkCt), t = .int .u32 tv ∧ k ≤ cs.length ∧ (∀ (j : Nat) (y : Ct), j < k → cs[j]? = some y → y.sp.nu ≤ tv) ∧ (∀ (j : Nat) (y : Ct), k ≤ j → cs[j]? = some y → tv < y.sp.nu) ∧ vals pre = cs.take k ∧ It S N C g v d cs wr ∧ J pre wr) (fun t _ => cs.length - spotC cs (intOf t + 1))
  case atStart => exact ⟨0, 0, [], rfl, Nat.zero_le _, fun j y hj => absurd hj (Nat.not_lt_zero j), fun j y _ hy => by have := PS.out y (List.mem_of_getElem? hy); omega, rfl, H0.out, h0⟩
  case round =>
    obtain ⟨k, tv, pre, rfl, hk, hlo, hhi, hpre, hit, hJ⟩ := hrel
    have IT := Lib.hid hit
    have JJ := Lib.hid hJ
    have LO := Lib.hid hlo
    have HI := Lib.hid hhi
    have PR := Lib.hid hpre
    have BH := behind_any g v d cs tv wr hit.rp
    have cl := hit.cl
    have hz := zero_ct
    have HLE := Lib.hid (left_of hlo hhi hk)
    clear hit hJ hlo hhi hpre h0
    rcases Nat.lt_or_ge k cs.length with hlt | hge
    · obtain ⟨x, hx⟩ : ∃ x, cs[k]? = some x := ⟨cs[k], List.getElem?_eq_getElem hlt⟩
      have e1 := bh_some (idx_hit (p := over tv) hx (decide_eq_true (HI.out k x (Nat.le_refl _) hx)) (fun j y hj hy => decide_eq_false (by have := LO.out j y hj hy; omega))) hx
      rw [e1] at BH
      have OK := Lib.hid (IT.out.rp.ok x (List.mem_of_getElem? hx))
      have HX := Lib.hid hx
      clear e1 hx
      refine wpIn_block ?_
      apply wpIn_seq_k; intro K1 h1
      refine wpIn_wide.2 ?_
      go_wp2_with fail
      refine BH.mono ?_; rintro e w1 ⟨rfl, q⟩
      have Q := Lib.hid q
      have CB := Lib.hid (cb_new w1 (x := zeroCt) rfl)
      clear q
      go_wp2_with (refine wl_store_ct x w1.heap.size CB.out OK.out.sp.len rfl rfl ?_)
      obtain ⟨w3, hw3⟩ : ∃ w3, (w1.alloc (.cells zeroCt.cells 45)).setRow w1.heap.size x.cells = w3 := ⟨_, rfl⟩
      rw [hw3]
      have q3 : Below wr.heap.size wr w3 := by rw [← hw3]; exact Q.out.trans ((below_row' (below_new w1 _) (Nat.le_refl _)).mono Q.out.size)
      have CX : Hid (Cb w3 w1.heap.size x) := Lib.hid (by rw [← hw3]; exact cb_set CB.out OK.out.sp.len)
      have NB : Hid (wr.heap.size ≤ w1.heap.size) := Lib.hid Q.out.size
      have I3 := Lib.hid (IT.out.below ST.out q3)
      have J3 := Lib.hid (AJ.out _ _ _ none JJ.out (grown_of q3) (fun r e => by cases e))
      have NS : Hid (¬ S w3 w1.heap.size) := Lib.hid fun c => by
        have := ST.out wr w3 IT.out.sz (fun k hk => q3.block k (Nat.lt_of_lt_of_le hk IT.out.sz)) _ c
        have := IT.out.wf _ this
        have := NB.out
        omega
      have RG := Lib.hid (rng_row CX.out)
      clear hw3 q3
      have hpl : pre.length < cs.length := by
        have := congrArg List.length PR.out
        rw [vals_len, List.length_take] at this
        omega
      obtain ⟨fn, tmps, assign, body, hy, hR⟩ := HY.out pre ⟨x, OK.out⟩ w3 J3.out hpl
      have HR := Lib.hid hR
      clear hR
      gi_wp2_with ((with_reducible refine wlIn_load_ctg w1.heap.size 0 OK.out.sp.len RG.out ?_ ?_ ?_); rfl; rfl)
      refine HR.out.mono ?_
      rintro e W4 (⟨rfl, hJ4, hk4⟩ | ⟨rfl, hJx⟩)
      · have I4 := Lib.hid (I3.out.kept hk4)
        have J4 := Lib.hid hJ4
        have c4 : W4.cell? ⟨w1.heap.size, 0, none⟩ = some (.int .u32 x.sp.nu) := by
          have e := (hk4 I3.out.wf).2.2.2 w1.heap.size (Array.getElem?_eq_some_iff.1 CX.out.1).1 NS.out ⟨_, _, _, CX.out.1⟩
          have := cb_cell (w := W4) (g := w1.heap.size) (x := x) ⟨e.trans CX.out.1, OK.out.sp.len⟩ 0
          rw [this, Ct.spc OK.out.sp.len (by omega), Sp.c0]
        clear hJ4 hk4
        gi_wp2
        go_roundw
        case rel => exact ⟨k + 1, x.sp.nu, pre ++ [⟨x, OK.out⟩], rfl, hlt, fun j y hj hy => rise_le IT.out.rp.up.rise (by omega) hy HX.out, fun j y hj hy => IT.out.rp.up.rise k j x y hj HX.out hy, by
          rw [vals_snoc, PR.out, List.take_add_one, HX.out]; rfl, I4.out, J4.out⟩
        case measure =>
          have e1 := HLE.out
          have e2 := left_of (cs := cs) (t := x.sp.nu) (k := k + 1) (fun j y hj hy => rise_le IT.out.rp.up.rise (by omega) hy HX.out) (fun j y hj hy => IT.out.rp.up.rise k j x y hj HX.out hy) hlt
          simp only [intOf]
          omega
      · gi_wp2
        refine bodyPost_ret (results_none rfl _ _ _) rfl ?_
        exact ⟨⟨_, rfl⟩, .inr ⟨pre ++ [⟨x, OK.out⟩], by
          rw [vals_snoc, PR.out]
          have e := List.take_append_drop (k + 1) cs
          rw [List.take_add_one, HX.out] at e
          exact ⟨cs.drop (k + 1), e⟩, hJx⟩⟩
    · obtain rfl : k = cs.length := by omega
      have e1 := bh_none (idx_miss (p := over tv) (cs := cs) (fun j y hy => decide_eq_false (by have := LO.out j y (List.getElem?_eq_some_iff.1 hy).1 hy; omega)))
      rw [e1] at BH
      clear e1
      refine wpIn_block ?_
      apply wpIn_seq_k; intro K1 h1
      refine wpIn_wide.2 ?_
      go_wp2_with fail
      refine BH.mono ?_; rintro e w1 ⟨rfl, q⟩
      have Q := Lib.hid q
      have CB := Lib.hid (cb_new w1 (x := zeroCt) rfl)
      clear q
      go_wp2_with (refine wl_store_ct zeroCt w1.heap.size CB.out rfl rfl rfl ?_)
      obtain ⟨w3, hw3⟩ : ∃ w3, (w1.alloc (.cells zeroCt.cells 45)).setRow w1.heap.size zeroCt.cells = w3 := ⟨_, rfl⟩
      rw [hw3]
      have q3 : Below wr.heap.size wr w3 := by rw [← hw3]; exact Q.out.trans ((below_row' (below_new w1 _) (Nat.le_refl _)).mono Q.out.size)
      have J3 := Lib.hid (AJ.out _ _ _ none JJ.out (grown_of q3) (fun r e => by cases e))
      clear hw3 q3
      gi_wp2
      refine ⟨fun f e => (by cases e), ?_⟩
      gi_wp2
      refine bodyPost_ret (results_none rfl _ _ _) rfl ?_
      exact ⟨⟨_, rfl⟩, .inl ⟨pre, by rw [PR.out, List.take_length], J3.out⟩⟩
end Go.Proofs.Ytejhnfkljfdejaa
