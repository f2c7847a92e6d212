/- The program's ledger: what Holders tells (by genMo.py). -/
import Derived.Test.YthnmpnepgagmmaaMn
namespace Go.Proofs.Ythnmpnepgagmmaa
open Go.RowKit Go.Shelf
set_option linter.unusedVariables false
set_option linter.unusedSimpArgs false
set_option linter.unusedSectionVars false

theorem srt_uniq {α : Type} {R : α → α → Prop} (asy : ∀ x y, R x y → R y x → False) (ir : ∀ x, ¬ R x x) : ∀ {l l' : List α}, l.Pairwise R → l'.Pairwise R → (∀ x, x ∈ l ↔ x ∈ l') → l = l'
  | [], [], _, _, _ => rfl
  | [], y :: r', _, _, h => absurd ((h y).2 (List.mem_cons_self ..)) (by simp)
  | x :: r, [], _, _, h => absurd ((h x).1 (List.mem_cons_self ..)) (by simp)
  | x :: r, y :: r', p, p', h => by
    obtain ⟨a1, a2⟩ := List.pairwise_cons.1 p
    obtain ⟨b1, b2⟩ := List.pairwise_cons.1 p'
    have e : x = y := by
      rcases List.mem_cons.1 ((h x).1 (List.mem_cons_self ..)) with e | hx
      · exact e
      · rcases List.mem_cons.1 ((h y).2 (List.mem_cons_self ..)) with e | hy
        · exact e.symm
        · exact absurd (a1 y hy) (fun c => asy _ _ c (b1 x hx))
    subst e
    rw [srt_uniq asy ir a2 b2 fun z => ?_]
    have hz := h z
    simp only [List.mem_cons] at hz
    constructor
    · intro q
      rcases hz.1 (.inr q) with rfl | c
      · exact absurd (a1 _ q) (ir _)
      · exact c
    · intro q
      rcases hz.2 (.inr q) with rfl | c
      · exact absurd (b1 _ q) (ir _)
      · exact c
/-- The holders of a contract, account by account. -/
def holdAt (hl : List Po) (c : Int) (a : Ac) : Option Po := MP.at hl (c, a.nu)
theorem holdAt_inv {hl : List Po} {c : Int} {a : Ac} {x : Po} (h : holdAt hl c a = some x) : x ∈ hl ∧ x.co = c ∧ x.ac = a.nu := by
  have := at_inv h
  refine ⟨this.1, ?_⟩
  have e := this.2
  injection e with e1 e2
  exact ⟨e1, e2⟩
theorem holders_fm {L : Lg} (h : LgI L) (c : Int) : L.al.filterMap (holdAt L.hl c) = holdersH L.hl c := by
  refine srt_uniq (R := fun x y : Po => x.ac < y.ac) (fun x y h k => by omega) (fun x h => by omega) ?_ ?_ fun x => ?_
  · rw [List.pairwise_filterMap]
    refine List.Pairwise.imp (R := fun x y : Ac => x.nu < y.nu) (fun {a b} hab x hx y hy => ?_) h.asr
    have h1 := (holdAt_inv hx).2.2
    have h2 := (holdAt_inv hy).2.2
    omega
  · refine List.Pairwise.imp_of_mem (fun {x y} hx hy hl => ?_) (show (holdersH L.hl c).Pairwise ltP from h.psr.filter _)
    have ex : x.co = c := by simpa using (List.mem_filter.1 hx).2
    have ey : y.co = c := by simpa using (List.mem_filter.1 hy).2
    unfold ltP at hl
    omega
  · rw [List.mem_filterMap]
    unfold holdersH
    rw [List.mem_filter]
    constructor
    · rintro ⟨a, ha, e⟩
      have := holdAt_inv e
      exact ⟨this.1, by simpa using this.2.1⟩
    · rintro ⟨hx, e⟩
      have e' : x.co = c := by simpa using e
      obtain ⟨a, ha, en⟩ := h.held x hx
      refine ⟨a, ha, at_some h.psr.dis hx ?_⟩
      show (x.co, x.ac) = (c, a.nu)
      rw [e', en]
section
variable {P : Program}
theorem leave_marksN {n : Nat} {fn : Func} {tmps : Array Value} {R : Ending → World → Prop} {v : Value} : ∀ (Ds : List Nat) (w : World), Ds.Nodup → (∀ D, D ∈ Ds → w.heap[D]? = some (.deferred (some []))) →
    (results fn tmps).run P (unmark Ds w) = .ok v (unmark Ds w) → R (.returned v) (unmark Ds w) → LeavesInM Fence.wide n P fn tmps R (marks Ds) .returning w
  | [], w, _, _, h, hR => ⟨v, h, hR⟩
  | D :: Ds, w, hn, hD, h, hR => by
    obtain ⟨n1, n2⟩ := List.nodup_cons.1 hn
    refine ⟨by simp, .inl ⟨_, _, rfl, run_takeDeferred (hD D (by simp)), leave_marksN Ds _ n2 (fun E hE => ?_) h hR⟩⟩
    have hne : E ≠ D := fun e => n1 (by rw [← e]; exact hE)
    exact (World.putObj_heap_other hne).trans (hD E (by simp [hE]))
theorem round_wide {n m l : Nat} {f : FuncId} {tmps : Array Value} {assign body : Code} {w : World} {R : Ending → World → Prop} (h : RoundIn Fence.wide n P l f tmps assign body w R) : RoundIn Fence.wide m P l f tmps assign body w R :=
  ⟨h.1, fun c cs _ => h.2 c cs (fun d hd => by cases hd)⟩
/-- A look-up at a step of a region that draws its order. -/
theorem yields9_look {ops : Array Oper} {S : World → Prop} {o : Oper} {a : Act} {b : Nat} {l : List Po} {c d : Int} {y : Po} {t : Bool} (hw : Region.wanted o (yielded ops a.tmps) = true) (m x : Operand) (ho : o.op = Op.lookup 58 m x true) (hm : a.eval m = .map (some b)) (hS : ∀ w, S w → MP.Mp w b l)
    (hx : a.eval x = .agg #[.int .u32 c, .int .u32 d]) (hu : U32' c ∧ U32' d) (e : (MP.at l (c, d)).getD zeroPo = y ∧ (MP.at l (c, d)).isSome = t) : YieldsIf Try.prog ops S o (.tuple #[.agg (EP.cells y).toArray, .bool t]) a := by
  refine .inl ⟨hw, fun w h => ?_⟩
  have hl := (hS w h).look Try.underlying58 (zero_po w) (c := (c, d)) hu
  have er : MP.res (.agg (EP.cells zeroPo).toArray) (MP.at l (c, d)) = .tuple #[.agg (EP.cells y).toArray, .bool t] := by
    cases q : MP.at l (c, d) with
    | none => rw [q] at e; rw [← e.1, ← e.2]; rfl
    | some z => rw [q] at e; rw [← e.1, ← e.2]; rfl
  rw [er] at hl
  have hx' : a.eval x = MP.kv (c, d) := hx
  unfold execOp
  simp [ho, hm, hx', hl, Result.andThen]
end
/-- Within the iterator: what it looks at. -/
structure ItT (S : World → Nat → Prop) (N : Nat) (T : Nat → Prop) (W0 W : World) : Prop where
  same : ∀ k, T k → W.heap[k]? = W0.heap[k]?
  up : W0.heap.size ≤ W.heap.size
  wf : ∀ k, S W k → k < W.heap.size
  ap : ∀ k, T k → ¬ S W k
section
variable {S : World → Nat → Prop} {N N0 : Nat} {T : Nat → Prop} {W0 W W' : World}
theorem ItT.below (st : Still S N) (hN : N ≤ W0.heap.size) (hT : ∀ k, T k → k < W0.heap.size) (h : ItT S N T W0 W) (q : Below W.heap.size W W') : ItT S N T W0 W' := by
  have s := st W W' (Nat.le_trans hN h.up) (fun k hk => q.block k (Nat.lt_of_lt_of_le hk (Nat.le_trans hN h.up)))
  exact ⟨fun k hk => (q.block k (Nat.lt_of_lt_of_le (hT k hk) h.up)).trans (h.same k hk), Nat.le_trans h.up q.size, fun k hk => Nat.lt_of_lt_of_le (h.wf k (s k hk)) q.size, fun k hk c => h.ap k hk (s k c)⟩
theorem ItT.kept (hT : ∀ k, T k → k < W0.heap.size ∧ ∃ cs t f, W0.heap[k]? = some (.cells cs t f)) (h : ItT S N T W0 W) (k : Kn N0 S W W') : ItT S N T W0 W' := by
  obtain ⟨h1, h2, h3, h4⟩ := k h.wf
  refine ⟨fun j hj => (h4 j (Nat.lt_of_lt_of_le (hT j hj).1 h.up) (h.ap j hj) (.inr (by
    obtain ⟨cs, t, f, e⟩ := (hT j hj).2
    exact ⟨cs, t, f, (h.same j hj).trans e⟩))).trans (h.same j hj), Nat.le_trans h.up h3.size, h1, fun j hj c => ?_⟩
  rcases h2 j c with c | c
  · exact h.ap j hj c
  · have := (hT j hj).1; have := h.up; omega
end
theorem wlInR_gload {α : Type} {E : Elt α} {P : Program} {ts te : TypeId} (T : EltT P E ts te) {n l : Nat} {ops : Array Oper} {rest : List Oper} {a : Act} {w : World} {Q : Exit → Act → World → Prop} {d : Option Nat} {x : Operand} {ty : TypeId} {ps : String} {af : Array Edge} {gd : Option (Nat × Bool)} {s : α} (b o : Nat) (hb : w.rangeAt b o (E.cells s))
    (hw : Region.wanted ⟨d, .load te x, ty, ps, af, gd⟩ (yielded ops a.tmps) = true) (hx : a.eval x = .pointer (some ⟨b, o, none⟩)) (h : wpListIn (Fence.wide.inRound l) n P ops Q rest (a.put d (.agg (E.cells s).toArray)) w) : wpListIn (Fence.wide.inRound l) n P ops Q (⟨d, .load te x, ty, ps, af, gd⟩ :: rest) a w :=
  wpListIn_step fun K hK => by
    rw [if_pos hw]
    obtain ⟨fs, hu⟩ := T.row
    exact op_in (fun c e => by cases e) (wp_load_mid te x rfl b o hx (E.cells s) _ hb hu rfl (by rw [gsize T, E.len]) (hK _ _ h))
attribute [local go_sem] Oper.semAt_some
set_option maxRecDepth 100000 in
set_option maxHeartbeats 16000000 in
theorem lhold1_in (n l0 : Nat) (hn : 3 ≤ n) {S : World → Nat → Prop} {N N0 H1 H2 g ba bp : Nat} {L : Lg} {c : Int} (st : Still S N) (J Jx : List Po → World → Prop) (W : World) (hNW : N ≤ W.heap.size) (hN0 : N0 ≤ W.heap.size) (cJ : Calm W.heap.size S J) (cJx : Calm W.heap.size S Jx)
    (hY : ∀ pre x W1, J pre W1 → (pre ++ [x]) <+: holdersH L.hl c → YieldAt Fence.wide (n - 1) Try.prog l0 #[.agg (EP.cells x).toArray] W1 fun e W' =>
      (e = .returned (.bool true) ∧ J (pre ++ [x]) W' ∧ Kn N0 S W1 W' ∧ KeepsFrom W.heap.size W1 W') ∨ (e = .returned (.bool false) ∧ Jx (pre ++ [x]) W' ∧ KeepsFrom W.heap.size W1 W'))
    (hP : ∀ pre W1, J pre W1 → ∃ hl', MP.Mp W1 bp hl' ∧ ∀ a : Ac, (∀ p, p ∈ pre → p.ac ≠ a.nu) → holdAt hl' c a = holdAt L.hl c a)
    (hH1 : W.heap[H1]? = some (.cells #[.pointer (some ⟨g, 0, none⟩)] 23 (0, 0))) (hH2 : W.heap[H2]? = some (.cells #[.int .u32 c] 31 (0, 0))) (hg : Lb W g ba bp) (hm : MA.Mp W ba L.al) (hi : LgI L) (hc : U32' c) (hba : ba < N0)
    (wf : ∀ k, S W k → k < W.heap.size) (ap : ∀ k, (k = H1 ∨ k = H2 ∨ k = g ∨ k = ba) → ¬ S W k) (h0 : J [] W) :
    CallsIn Fence.wide n Try.prog 53 #[.func (.yield l0) #[] #[], .pointer (some ⟨H1, 0, none⟩), .pointer (some ⟨H2, 0, none⟩)] W fun e W' => (∃ v, e = .returned v) ∧
      ((∃ xs, xs = holdersH L.hl c ∧ J xs W') ∨ (∃ pre, pre <+: holdersH L.hl c ∧ Jx pre W')) := by
  have hz := zero_ac
  have hz2 := zero_po
  obtain ⟨V, hV⟩ : ∃ V, W.alloc (.cells #[.func (.yield l0) #[] #[]] 70) = V := ⟨_, rfl⟩
  have bV : Below W.heap.size W V := hV ▸ below_new W _
  have sV : V.heap.size = W.heap.size + 1 := by rw [← hV]; simp
  have hYb : V.heap[W.heap.size]? = some (.cells #[.func (.yield l0) #[] #[]] 70 (0, 0)) := hV ▸ heap_alloc_new W _
  have l1 := (Array.getElem?_eq_some_iff.1 hH1).1
  have l2 := (Array.getElem?_eq_some_iff.1 hH2).1
  have k1 : V.cell? ⟨H1, 0, none⟩ = some (.pointer (some ⟨g, 0, none⟩)) := by rw [cell_of_row _ _ _ _ _ _ ((bV.block H1 l1).trans hH1)]; rfl
  have HV := Lib.hid hV
  have gV : Lb V g ba bp := hg.same (bV.block g hg.gl)
  have mV := hm.below bV
  have AC := Lib.hid (laccts9 gV mV hi)
  have ST := Lib.hid st
  have HY := Lib.hid hY
  have HP := Lib.hid hP
  have CJ := Lib.hid cJ
  have CJX := Lib.hid cJx
  have HI := Lib.hid hi
  have HC := Lib.hid hc
  have WF := Lib.hid wf
  have AP := Lib.hid ap
  have J0 := Lib.hid h0
  have HN := Lib.hid (And.intro hNW hN0)
  have HBA := Lib.hid hba
  have BV := Lib.hid (And.intro bV sV)
  have BK : Hid (V.heap[H1]? = some (.cells #[.pointer (some ⟨g, 0, none⟩)] 23 (0, 0)) ∧ V.heap[H2]? = some (.cells #[.int .u32 c] 31 (0, 0)) ∧ Lb V g ba bp ∧ V.heap[W.heap.size]? = some (.cells #[.func (.yield l0) #[] #[]] 70 (0, 0))) := Lib.hid ⟨(bV.block H1 l1).trans hH1, (bV.block H2 l2).trans hH2, gV, hYb⟩
  have LT : Hid (H1 < W.heap.size ∧ H2 < W.heap.size ∧ g < W.heap.size ∧ ba < W.heap.size) := Lib.hid ⟨l1, l2, hg.gl, hm.lt⟩
  clear hV bV sV hYb l1 l2 gV mV st hY hP cJ cJx hi hc wf ap h0 hH1 hH2 hg hm hNW hN0 hba
  refine callsIn_of_wp_marks Try.func53 rfl trivial ?_ rfl
  simp only [Try.ntmps53, List.size_toArray, List.length_cons, List.length_nil, Nat.reduceAdd, Nat.reduceSub, Array.replicate_succ, Array.replicate_zero, List.push_toArray, List.append_toArray, List.nil_append, List.cons_append]
  refine wpIn_wide.2 ?_
  go_wp2_with (rw [HV.out])
  refine AC.out.mono ?_; rintro e W3 ⟨gf, lb, T, rfl, q1, en, hT, tell⟩
  have TL := Lib.hid tell
  have EN := Lib.hid en
  have Q1 := Lib.hid q1
  have HT := Lib.hid hT
  clear q1 en hT tell
  go_wp2_with fail
  have s3 : V.heap.size ≤ W3.heap.size := Q1.out.size
  have sv := BV.out.2
  have b3 : Below W.heap.size W W3 := BV.out.1.trans (Q1.out.mono BV.out.1.size)
  have sS := ST.out W W3 HN.out.1 (fun k hk => b3.block k (Nat.lt_of_lt_of_le hk HN.out.1))
  have st3 : Still S W3.heap.size := fun A B hA hk => ST.out A B (Nat.le_trans (Nat.le_trans HN.out.1 b3.size) hA) (fun k h => hk k (Nat.lt_of_lt_of_le h (Nat.le_trans HN.out.1 b3.size)))
  have T0lt : ∀ k, (k = H1 ∨ k = H2 ∨ k = g ∨ k = W.heap.size) → k < W3.heap.size ∧ ∃ cs t f, W3.heap[k]? = some (.cells cs t f) := fun k hk => by
    have hl := LT.out
    rcases hk with rfl | rfl | rfl | rfl
    · exact ⟨by omega, _, _, _, (Q1.out.block _ (by omega)).trans BK.out.1⟩
    · exact ⟨by omega, _, _, _, (Q1.out.block _ (by omega)).trans BK.out.2.1⟩
    · obtain ⟨cs, t, f, e⟩ := BK.out.2.2.1.cells
      exact ⟨by omega, cs, t, f, (Q1.out.block _ (by omega)).trans e⟩
    · exact ⟨by omega, _, _, _, (Q1.out.block _ (by omega)).trans BK.out.2.2.2⟩
  have it3 : ItT S N (fun k => k = H1 ∨ k = H2 ∨ k = g ∨ k = W.heap.size) W3 W3 := ⟨fun _ _ => rfl, Nat.le_refl _, fun k hk => Nat.lt_of_lt_of_le (WF.out k (sS k hk)) b3.size, fun k hk cc => by
    have hs := sS k cc
    rcases hk with rfl | rfl | rfl | rfl
    · exact AP.out _ (.inl rfl) hs
    · exact AP.out _ (.inr (.inl rfl)) hs
    · exact AP.out _ (.inr (.inr (.inl rfl))) hs
    · have := WF.out _ hs; omega⟩
  have T0L := Lib.hid T0lt
  have SV := Lib.hid (And.intro s3 sv)
  have B3 := Lib.hid b3
  have ST3 := Lib.hid st3
  have GB : Hid (∀ U, ItT S N (fun k => k = H1 ∨ k = H2 ∨ k = g ∨ k = W.heap.size) W3 U → (U.cell? ⟨H1, 0, none⟩ = some (.pointer (some ⟨g, 0, none⟩)) ∧ U.cell? ⟨H2, 0, none⟩ = some (.int .u32 c)) ∧ Lb U g ba bp ∧ U.cell? ⟨W.heap.size, 0, none⟩ = some (.func (.yield l0) #[] #[])) := Lib.hid fun U h => by
    have hl := LT.out
    refine ⟨⟨?_, ?_⟩, ?_, ?_⟩
    · rw [cell_of_row _ _ _ _ _ _ ((h.same H1 (.inl rfl)).trans ((Q1.out.block _ (by omega)).trans BK.out.1))]; rfl
    · rw [cell_of_row _ _ _ _ _ _ ((h.same H2 (.inr (.inl rfl))).trans ((Q1.out.block _ (by omega)).trans BK.out.2.1))]; rfl
    · exact BK.out.2.2.1.same ((h.same g (.inr (.inr (.inl rfl)))).trans (Q1.out.block _ (by omega)))
    · rw [cell_of_row _ _ _ _ _ _ ((h.same _ (.inr (.inr (.inr rfl)))).trans ((Q1.out.block _ (by omega)).trans BK.out.2.2.2))]; rfl
  have IT3 := Lib.hid it3
  clear b3 sS T0lt it3 st3 k1 s3 sv
  refine (wpIn_wide (n := n)).1 ?_
  have hls := holders_fm HI.out c
  have HLS := Lib.hid hls
  clear hls
  refine range_calmN (S := S) (N0 := N0) (Sd := fun xs => xs = L.al) (Sp := fun pre => pre <+: L.al) (Pr := fun xs => xs <+: L.al) (encs := encA) (by omega) rfl EN.out ST3.out (Nat.le_trans HN.out.2 B3.out.size) (TL.out W3 S (n - 1) N0 (Fr.refl _ _) ST3.out (fun k hk => ?kd) IT3.out.wf (fun k hk cc => ?apT) (by omega)) (fun _ => rfl)
    (fun done U => ∃ pre, pre = done.filterMap (holdAt L.hl c) ∧ J pre U ∧ ItT S N (fun k => k = H1 ∨ k = H2 ∨ k = g ∨ k = W.heap.size) W3 U)
    (fun cd done U => cd = .ret ∧ ∃ pre, pre <+: holdersH L.hl c ∧ Jx pre U)
    ?calmI ?calmX ⟨[], rfl, CJ.out.grow (Nat.le_refl _) B3.out J0.out, IT3.out⟩
    (fun x a' U => ∃ bx, EA.Bx 33 U bx x ∧ a' = { tmps := #[.func (.yield l0) #[] #[], .pointer (some ⟨H1, 0, none⟩), .pointer (some ⟨H2, 0, none⟩), .pointer (some ⟨W.heap.size, 0, none⟩), .pointer (some ⟨bx, 0, none⟩), undef, undef, .pointer (some ⟨g, 0, none⟩), .func (.func gf) #[] lb, .agg (EA.cells x).toArray, undef, undef, undef, undef, undef, undef, undef, undef, undef, undef, undef, undef, undef, undef, undef, undef, undef, undef, undef], defers := [] })
    (fun x a' U l o o' hx hl ho hc => by
      obtain ⟨bx, h2, h3⟩ := hx
      refine ⟨bx, ?_, h3⟩
      show (U.putObj l o').heap[bx]? = _
      rw [World.putObj_heap_other (fun e => ?_)]
      · exact h2
      · subst e
        rw [show U.heap[bx]? = _ from h2] at ho
        cases ho
        cases hc) ?assign ?body ?done ?stop
  case kd =>
    rcases (HT.out k hk).2 with (rfl | rfl) | ⟨_, hcl⟩
    · exact .inr (T0L.out k (.inr (.inr (.inl rfl)))).2
    · exact .inl HBA.out
    · exact .inr hcl
  case apT =>
    have hs := ST.out W W3 HN.out.1 (fun k hk => B3.out.block k (Nat.lt_of_lt_of_le hk HN.out.1)) k cc
    rcases (HT.out k hk).2 with (rfl | rfl) | ⟨hge, _⟩
    · exact AP.out _ (.inr (.inr (.inl rfl))) hs
    · exact AP.out _ (.inr (.inr (.inr rfl))) hs
    · have := WF.out _ hs; have := SV.out.2; omega
  case calmI =>
    intro done U U' ⟨pre, hpre, hj, hit⟩ b hs
    refine ⟨pre, hpre, CJ.out.up B3.out.size pre U U' hj b hs, ?_⟩
    have s := ST3.out U U' hit.up (fun k hk => b.block k hk)
    exact ⟨fun k hk => (b.block k (T0L.out k hk).1).trans (hit.same k hk), Nat.le_trans hit.up b.size, fun k hk => Nat.lt_of_lt_of_le (hit.wf k (s k hk)) b.size, fun k hk cc => hit.ap k hk (s k cc)⟩
  case calmX =>
    intro cd done U U' ⟨hc, pre, hpre, hj⟩ b hs
    exact ⟨hc, pre, hpre, CJX.out.up B3.out.size pre U U' hj b hs⟩
  case assign =>
    rintro l pre x U KK ⟨pr, h1, hj, hit⟩ _ hK
    have HZ := Lib.hid (gbx_new (E := EA) (te := 33) U zeroAc)
    refine region_in rfl (fun ⟨_, _, h⟩ => h) ?_
    go_wp2_with (refine gwl_store TA x U.heap.size HZ.out rfl rfl ?_)
    have q : Below U.heap.size U ((U.alloc (.cells (EA.cells zeroAc).toArray 33)).setRow U.heap.size (EA.cells x).toArray) := below_row0 (below_new U _) (Nat.le_refl _)
    refine hK _ _ ⟨q.size, fun k o _ hk _ => (q.block k (Array.getElem?_eq_some_iff.1 hk).1).trans hk⟩ (Kn.below ST3.out hit.up q) ⟨pr, h1, CJ.out.grow (Nat.le_trans B3.out.size hit.up) q hj, hit.below ST.out (Nat.le_trans HN.out.1 B3.out.size) (fun k hk => (T0L.out k hk).1) q⟩ ⟨U.heap.size, gbx_set HZ.out, rfl⟩
  case body =>
    rintro l done x a' Wc - - ⟨pre, hpre, hj, hit⟩ ⟨bx, hbx, rfl⟩ hpx
    obtain ⟨hl', hmp, hat⟩ := HP.out pre Wc hj
    have xal : x ∈ L.al := hpx.subset (List.mem_append_right _ (List.mem_singleton.2 rfl))
    have hxn := (HI.out.aok x xal).1
    have HU : Hid (U32' c ∧ U32' x.nu) := Lib.hid ⟨HC.out, by omega, hxn.2⟩
    have hne : ∀ p, p ∈ pre → p.ac ≠ x.nu := fun p hp e => by
      rw [hpre] at hp
      obtain ⟨a, ha, e2⟩ := List.mem_filterMap.1 hp
      have h3 := (holdAt_inv e2).2.2
      have h4 : (done ++ [x]).Pairwise fun a b : Ac => a.nu < b.nu := HI.out.asr.sublist hpx.sublist
      have := (List.pairwise_append.1 h4).2.2 a ha x (List.mem_singleton.2 rfl)
      omega
    have hat2 := hat x hne
    obtain ⟨y, hy⟩ : ∃ y, (MP.at hl' (c, x.nu)).getD zeroPo = y := ⟨_, rfl⟩
    obtain ⟨t, ht⟩ : ∃ t, (MP.at hl' (c, x.nu)).isSome = t := ⟨_, rfl⟩
    have HATY := Lib.hid (And.intro hy ht)
    have HO : Hid (holdAt L.hl c x = if t = true then some y else none) := Lib.hid (by
      rw [← hat2]
      show MP.at hl' (c, x.nu) = _
      cases q : MP.at hl' (c, x.nu) with
      | none => rw [q] at ht; rw [← ht]; rfl
      | some z => rw [q] at hy ht; rw [← ht, ← hy]; rfl)
    have MPS : Hid (∀ U, Below Wc.heap.size Wc U → MP.Mp U bp hl') := Lib.hid fun U q => hmp.below q
    have ITB := Lib.hid fun (U : World) (q : Below Wc.heap.size Wc U) => hit.below ST.out (Nat.le_trans HN.out.1 B3.out.size) (fun k hk => (T0L.out k hk).1) q
    have KH1 : Hid (∀ U, Below Wc.heap.size Wc U → U.cell? ⟨H1, 0, none⟩ = some (.pointer (some ⟨g, 0, none⟩))) := Lib.hid fun U q => (GB.out U (ITB.out U q)).1.1
    have KH2 : Hid (∀ U, Below Wc.heap.size Wc U → U.cell? ⟨H2, 0, none⟩ = some (.int .u32 c)) := Lib.hid fun U q => (GB.out U (ITB.out U q)).1.2
    have KG2 : Hid (∀ U, Below Wc.heap.size Wc U → U.cell? ⟨g, 2, none⟩ = some (.map (some bp))) := Lib.hid fun U q => (GB.out U (ITB.out U q)).2.1.c2
    have KX0 : Hid (∀ U, Below Wc.heap.size Wc U → U.cell? ⟨bx, 0, none⟩ = some (.int .u32 x.nu)) := Lib.hid fun U q => gbx_cell (gbx_below hbx q) 0
    have HJ := Lib.hid hj
    have HPX := Lib.hid hpx
    have HPRE := Lib.hid hpre
    have UP := Lib.hid hit.up
    clear hj hit hbx hpx hpre hmp hat xal hxn hne hat2 hy ht
    refine wpIn_block ?_
    apply wpIn_seq_k; intro KB hKB
    have HKB := Lib.hid hKB
    clear hKB
    refine region_held_in (S := fun U => Below Wc.heap.size Wc U) rfl (fun ⟨_, _, h⟩ => h) (by kernel_rfl) (Below.refl _ _).drew (fun hH => ?_)
    refine wpAnyH_take (i := 0) (v := .pointer (some ⟨g, 0, none⟩)) rfl (by kernel_rfl) (by kernel_rfl) (by kernel_rfl) (fun _ _ _ h => h) (.inl ⟨by rfl, ?_⟩) (by assumption) ?_
    · intro W hW; have h0 := KH1.out W hW; go_simp
    try simp only [List.getElem_toArray, List.getElem_cons_zero, List.getElem_cons_succ, Act.put, List.setIfInBounds_toArray, List.set_cons_zero, List.set_cons_succ]
    refine wpAnyH_take (i := 1) (v := .pointer (some ⟨g, 0, none⟩)) rfl (by kernel_rfl) (by kernel_rfl) (by kernel_rfl) (fun _ _ _ h => h) (.inl ⟨by rfl, ?_⟩) (by assumption) ?_
    · intro W hW; go_simp
    try simp only [List.getElem_toArray, List.getElem_cons_zero, List.getElem_cons_succ, Act.put, List.setIfInBounds_toArray, List.set_cons_zero, List.set_cons_succ]
    refine wpAnyH_take (i := 2) (v := .pointer (some ⟨g, 2, none⟩)) rfl (by kernel_rfl) (by kernel_rfl) (by kernel_rfl) (fun _ _ _ h => h) (.inl ⟨by rfl, ?_⟩) (by assumption) ?_
    · intro W hW; go_simp
    try simp only [List.getElem_toArray, List.getElem_cons_zero, List.getElem_cons_succ, Act.put, List.setIfInBounds_toArray, List.set_cons_zero, List.set_cons_succ]
    refine wpAnyH_take (i := 3) (v := .map (some bp)) rfl (by kernel_rfl) (by kernel_rfl) (by kernel_rfl) (fun _ _ _ h => h) (.inl ⟨by rfl, ?_⟩) (by assumption) ?_
    · intro W hW; have h0 := KG2.out W hW; go_simp
    try simp only [List.getElem_toArray, List.getElem_cons_zero, List.getElem_cons_succ, Act.put, List.setIfInBounds_toArray, List.set_cons_zero, List.set_cons_succ]
    refine wpAnyH_take (i := 4) (v := .int .u32 c) rfl (by kernel_rfl) (by kernel_rfl) (by kernel_rfl) (fun _ _ _ h => h) (.inl ⟨by rfl, ?_⟩) (by assumption) ?_
    · intro W hW; have h0 := KH2.out W hW; go_simp
    try simp only [List.getElem_toArray, List.getElem_cons_zero, List.getElem_cons_succ, Act.put, List.setIfInBounds_toArray, List.set_cons_zero, List.set_cons_succ]
    refine wpAnyH_take (i := 5) (v := .pointer (some ⟨bx, 0, none⟩)) rfl (by kernel_rfl) (by kernel_rfl) (by kernel_rfl) (fun _ _ _ h => h) (.inl ⟨by rfl, ?_⟩) (by assumption) ?_
    · intro W hW; go_simp
    try simp only [List.getElem_toArray, List.getElem_cons_zero, List.getElem_cons_succ, Act.put, List.setIfInBounds_toArray, List.set_cons_zero, List.set_cons_succ]
    refine wpAnyH_take (i := 6) (v := .int .u32 x.nu) rfl (by kernel_rfl) (by kernel_rfl) (by kernel_rfl) (fun _ _ _ h => h) (.inl ⟨by rfl, ?_⟩) (by assumption) ?_
    · intro W hW; have h0 := KX0.out W hW; go_simp
    try simp only [List.getElem_toArray, List.getElem_cons_zero, List.getElem_cons_succ, Act.put, List.setIfInBounds_toArray, List.set_cons_zero, List.set_cons_succ]
    refine wpAnyH_take (i := 7) (v := .agg #[.int .u32 c, .int .u32 x.nu]) rfl (by kernel_rfl) (by kernel_rfl) (by kernel_rfl) (fun _ _ _ h => h) (.inl ⟨by rfl, ?_⟩) (by assumption) ?_
    · intro W hW; go_simp
    try simp only [List.getElem_toArray, List.getElem_cons_zero, List.getElem_cons_succ, Act.put, List.setIfInBounds_toArray, List.set_cons_zero, List.set_cons_succ]
    refine wpAnyH_take (i := 8) (v := .tuple #[.agg (EP.cells y).toArray, .bool t]) rfl (by kernel_rfl) (by kernel_rfl) (by kernel_rfl) (fun _ _ _ h => h) (yields9_look (by rfl) (.tmp 14) (.tmp 18) rfl rfl MPS.out rfl HU.out HATY.out) (by assumption) ?_
    try simp only [List.getElem_toArray, List.getElem_cons_zero, List.getElem_cons_succ, Act.put, List.setIfInBounds_toArray, List.set_cons_zero, List.set_cons_succ]
    refine wpAnyH_take (i := 9) (v := .tuple #[.agg (EP.cells y).toArray, .bool t]) rfl (by kernel_rfl) (by kernel_rfl) (by kernel_rfl) (fun _ _ _ h => h) (.inl ⟨by rfl, ?_⟩) (by assumption) ?_
    · intro W hW; go_simp
    try simp only [List.getElem_toArray, List.getElem_cons_zero, List.getElem_cons_succ, Act.put, List.setIfInBounds_toArray, List.set_cons_zero, List.set_cons_succ]
    refine wpAnyH_take (i := 10) (v := .agg (EP.cells y).toArray) rfl (by kernel_rfl) (by kernel_rfl) (by kernel_rfl) (fun _ _ _ h => h) (.inl ⟨by rfl, ?_⟩) (by assumption) ?_
    · intro W hW; go_simp
    try simp only [List.getElem_toArray, List.getElem_cons_zero, List.getElem_cons_succ, Act.put, List.setIfInBounds_toArray, List.set_cons_zero, List.set_cons_succ]
    refine wpAnyH_take (i := 11) (v := .bool t) rfl (by kernel_rfl) (by kernel_rfl) (by kernel_rfl) (fun _ _ _ h => h) (.inl ⟨by rfl, ?_⟩) (by assumption) ?_
    · intro W hW; go_simp
    try simp only [List.getElem_toArray, List.getElem_cons_zero, List.getElem_cons_succ, Act.put, List.setIfInBounds_toArray, List.set_cons_zero, List.set_cons_succ]
    refine wpAnyH_ready (rs := [12]) (by decide +kernel) (by simp) (AllReadyH.cons rfl (fun KQ hK => ?_) AllReadyH.nil)
    rw [if_pos (by rfl)]
    refine gwp_alloc 47 rfl zero_po ?_
    have hA := hH.trans ((below_new Wc.drew (.cells (EP.cells zeroPo).toArray 47)).mono hH.size)
    have xA := Lib.hid (gbx_new (E := EP) (te := 47) Wc.drew zeroPo)
    refine hK.out _ _ hA (fun _ => ?_)
    clear hK
    try simp only [List.getElem_toArray, List.getElem_cons_zero, List.getElem_cons_succ, Act.put, List.setIfInBounds_toArray, List.set_cons_zero, List.set_cons_succ]
    refine wpAnyH_ready (rs := [13]) (by decide +kernel) (by simp) (AllReadyH.cons rfl (fun KQ hK => ?_) AllReadyH.nil)
    rw [if_pos (by rfl)]
    refine gwp_store TP (.tmp 5) (.tmp 20) rfl y Wc.drew.heap.size xA.out rfl rfl ?_
    have hE := below_row0 (cs := (EP.cells y).toArray) hA (Nat.le_refl Wc.heap.size)
    have xE := Lib.hid (gbx_set (x := y) xA.out)
    refine hK.out _ _ hE (fun _ => ?_)
    clear hK
    try simp only [List.getElem_toArray, List.getElem_cons_zero, List.getElem_cons_succ, Act.put, List.setIfInBounds_toArray, List.set_cons_zero, List.set_cons_succ]
    refine wpAnyH_take (i := 14) (v := .bool t) rfl (by kernel_rfl) (by kernel_rfl) (by kernel_rfl) (fun _ _ _ h => h) (.inl ⟨by rfl, ?_⟩) (by assumption) ?_
    · intro W hW; go_simp
    try simp only [List.getElem_toArray, List.getElem_cons_zero, List.getElem_cons_succ, Act.put, List.setIfInBounds_toArray, List.set_cons_zero, List.set_cons_succ]
    refine wpAnyH_done (by decide +kernel) ?_ _
    have QE : Hid (Below Wc.heap.size Wc ((Wc.drew.alloc (.cells (EP.cells zeroPo).toArray 47)).setRow Wc.drew.heap.size (EP.cells y).toArray)) := Lib.hid hE
    have XE : Hid (EP.Bx 47 ((Wc.drew.alloc (.cells (EP.cells zeroPo).toArray 47)).setRow Wc.drew.heap.size (EP.cells y).toArray) Wc.drew.heap.size y) := Lib.hid xE.out
    clear hH hA hE xE xA
    generalize hWE : (Wc.drew.alloc (.cells (EP.cells zeroPo).toArray 47)).setRow Wc.drew.heap.size (EP.cells y).toArray = WE at *
    clear hWE
    refine HKB.out _ _ ?_
    have kf : KeepsFrom W3.heap.size Wc WE := ⟨QE.out.size, fun k o _ hk _ => (QE.out.block k (Array.getElem?_eq_some_iff.1 hk).1).trans hk⟩
    have JE := CJ.out.grow (Nat.le_trans B3.out.size UP.out) QE.out HJ.out
    have IE := Lib.hid (ITB.out WE QE.out)
    have KF := Lib.hid kf
    clear kf
    cases t
    · have HO' : Hid ((done ++ [x]).filterMap (holdAt L.hl c) = pre) := Lib.hid (by
        rw [List.filterMap_append, ← HPRE.out, List.filterMap_cons, HO.out]; simp)
      have JE' := Lib.hid JE
      clear JE
      apply wpIn_seq_k; intro KC hKC
      refine region_in rfl (fun ⟨_, _, h⟩ => h) ?_
      go_wp2_with fail
      refine wpIn_cond_false rfl ?_
      apply wpIn_skip
      exact ⟨KF.out, Kn.below ST3.out UP.out QE.out, pre, HO'.out.symm, JE'.out, IE.out⟩
    · have HO' : Hid ((done ++ [x]).filterMap (holdAt L.hl c) = pre ++ [y]) := Lib.hid (by
        rw [List.filterMap_append, ← HPRE.out, List.filterMap_cons, HO.out]; simp)
      have hpy : (pre ++ [y]) <+: holdersH L.hl c := by
        rw [← HLS.out, ← HO'.out]
        exact HPX.out.filterMap _
      obtain ⟨fn, tmps, assign, body, hyl, hR⟩ := HY.out pre y WE JE hpy
      have HR := Lib.hid hR
      have cY := (GB.out WE IE.out).2.2
      have RY := Lib.hid (gbx_rng XE.out)
      have HPY := Lib.hid hpy
      have UPE : Hid (W3.heap.size ≤ WE.heap.size) := Lib.hid IE.out.up
      clear JE hR hpy
      apply wpIn_seq_k; intro KC hKC
      have HKC := Lib.hid hKC
      clear hKC
      gi_wp2_with (first | ((with_reducible refine wlInR_gload TP Wc.drew.heap.size 0 RY.out ?_ ?_ ?_); rfl; rfl))
      refine ⟨fun h => (by cases h), ?_⟩
      refine RoundIn.mono (F := Fence.wide.inRound l) (show RoundIn Fence.wide (n - 1 - 1 - 1) _ _ _ _ _ _ _ _ from round_wide HR.out) ?_
      rintro e W4 (⟨rfl, hJ4, hk4, hkf⟩ | ⟨rfl, hJx, hkf⟩)
      · have F4 := Lib.hid (KF.out.trans (keeps_up hkf B3.out.size))
        have N4 := Lib.hid ((Kn.below (N0 := N0) ST3.out UP.out QE.out).trans hk4)
        have I4 := Lib.hid (IE.out.kept T0L.out hk4)
        have J4 := Lib.hid hJ4
        clear hJ4 hk4 hkf
        gi_wp2
        refine HKC.out _ _ ?_
        refine wpIn_cond_false rfl ?_
        apply wpIn_skip
        exact ⟨F4.out, N4.out, pre ++ [y], HO'.out.symm, J4.out, I4.out⟩
      · have F4 := Lib.hid (KF.out.trans (keeps_up hkf B3.out.size))
        have J4 := Lib.hid hJx
        clear hJx hkf
        gi_wp2
        refine HKC.out _ _ ?_
        refine wpIn_cond_true rfl ?_
        refine wpIn_ret ?_
        exact ⟨F4.out, rfl, pre ++ [y], HPY.out, J4.out⟩
  case done =>
    rintro D xs U hD hS ⟨pre, hpre, hj, hit⟩ hM
    subst hS
    have hfin : J pre (unmark [D] U) := CJ.out.put (.deferred none) (Nat.le_trans B3.out.size hD) hM rfl hj
    show LeavesInM Fence.wide n Try.prog Try.f53 _ _ (marks [D]) .returning U
    refine leave_marksN [D] U (by simp) (fun E hE => ?_) (results_none rfl _ _ _) ⟨⟨_, rfl⟩, .inl ⟨pre, by rw [hpre, HLS.out], hfin⟩⟩
    simp only [List.mem_cons, List.not_mem_nil, or_false] at hE
    subst hE
    exact hM
  case stop =>
    rintro D cd pre U hD hS ⟨rfl, pr, hpr, hj⟩ hM
    refine wpIn_ret ?_
    have hfin : Jx pr (unmark [D] U) := CJX.out.put (.deferred none) (Nat.le_trans B3.out.size hD) hM rfl hj
    show LeavesInM Fence.wide n Try.prog Try.f53 _ _ (marks [D]) .returning U
    refine leave_marksN [D] U (by simp) (fun E hE => ?_) (results_none rfl _ _ _) ⟨⟨_, rfl⟩, .inr ⟨pr, hpr, hfin⟩⟩
    simp only [List.mem_cons, List.not_mem_nil, or_false] at hE
    subst hE
    exact hM
end Go.Proofs.Ythnmpnepgagmmaa
