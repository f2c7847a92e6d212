/- The program's ledger: Mark. -/
import Derived.Test.YthnmpnepgagmmaaMq
namespace Go.Proofs.Ythnmpnepgagmmaa
open Go.RowKit Go.Shelf
set_option linter.unusedVariables false
set_option linter.unusedSimpArgs false
set_option linter.unusedSectionVars false

theorem mul_q {q p : Int} (hq : -10000000 ≤ q ∧ q ≤ 10000000) (hp : 1 ≤ p ∧ p ≤ 10000000) : -100000000000000 ≤ q * p ∧ q * p ≤ 100000000000000 := by
  rcases Int.le_total 0 q with h | h
  · have h1 := Int.mul_nonneg h (by omega : 0 ≤ p)
    have h2 := Int.mul_le_mul hq.2 hp.2 (by omega) (by decide)
    omega
  · have h1 := Int.mul_nonneg (by omega : 0 ≤ -q) (by omega : 0 ≤ p)
    have h2 := Int.mul_le_mul (by omega : -q ≤ 10000000) hp.2 (by omega) (by decide)
    rw [Int.neg_mul] at h1 h2
    omega
section
variable {L : Lg} {p : Int} {cl : Bool}
theorem mar_nil (hl : List Po) : marH p cl [] hl = hl := rfl
theorem mar_cons (x : Po) (pre hl : List Po) : marH p cl (x :: pre) hl = marH p cl pre (holdL hl (marP p cl x)) := rfl
theorem mar_snoc (pre : List Po) (x : Po) (hl : List Po) : marH p cl (pre ++ [x]) hl = holdL (marH p cl pre hl) (marP p cl x) := by unfold marH; rw [List.foldl_append]; rfl
theorem marP_key (x : Po) : (marP p cl x).co = x.co ∧ (marP p cl x).ac = x.ac := by unfold marP; cases cl <;> exact ⟨rfl, rfl⟩
theorem marP_inB {x : Po} (hx : (-mQ ≤ x.q ∧ x.q ≤ mQ) ∧ -mF ≤ x.b ∧ x.b ≤ mF) (hp : 1 ≤ p ∧ p ≤ 10000000) : inB (marP p cl x) = true := by
  have h := mul_q hx.1 hp
  have h1 := hx.1
  simp only [mQ, mF] at h1
  unfold inB marP
  simp only [mQ, mF]
  cases cl
  · simp; omega
  · simp
theorem mar_inv (hp : 1 ≤ p ∧ p ≤ 10000000) : ∀ (pre : List Po) (L : Lg), LgI L → (∀ x, x ∈ pre → (1 ≤ x.co ∧ x.co ≤ 4294967295) ∧ ((-mQ ≤ x.q ∧ x.q ≤ mQ) ∧ -mF ≤ x.b ∧ x.b ≤ mF) ∧ ∃ a, a ∈ L.al ∧ a.nu = x.ac) → LgI ⟨L.fund, L.al, marH p cl pre L.hl⟩
  | [], _, h, _ => h
  | x :: pre, L, h, hx => by
    obtain ⟨h1, h2, h3⟩ := hx x (List.mem_cons_self ..)
    exact mar_inv hp pre ⟨L.fund, L.al, holdL L.hl (marP p cl x)⟩ (hold_inv h (by rw [(marP_key (p := p) (cl := cl) x).1]; exact h1) (marP_inB h2 hp) (by rw [(marP_key (p := p) (cl := cl) x).2]; exact h3)) fun y hy => hx y (List.mem_cons_of_mem _ hy)
theorem mar_inv' (h : LgI L) (hp : 1 ≤ p ∧ p ≤ 10000000) (pre : List Po) (hx : ∀ x, x ∈ pre → x ∈ L.hl) : LgI ⟨L.fund, L.al, marH p cl pre L.hl⟩ :=
  mar_inv hp pre L h fun x q => ⟨(h.pok x (hx x q)).1.1, (h.pok x (hx x q)).2.1, h.held x (hx x q)⟩
theorem mar_srt : ∀ (pre hl : List Po), SrtP hl → SrtP (marH p cl pre hl)
  | [], _, h => h
  | x :: pre, hl, h => mar_srt pre _ (h.hold _)
theorem mar_at (c : Int) (a : Ac) : ∀ (pre hl : List Po), SrtP hl → (∀ x, x ∈ pre → x.ac ≠ a.nu) → holdAt (marH p cl pre hl) c a = holdAt hl c a
  | [], _, _, _ => rfl
  | x :: pre, hl, h, hx => by
    rw [mar_cons, mar_at c a pre _ (h.hold _) fun y hy => hx y (List.mem_cons_of_mem _ hy)]
    unfold holdAt
    rw [at_hold h, if_neg]
    intro e
    injection e with _ e2
    rw [(marP_key (p := p) (cl := cl) x).2] at e2
    exact hx x (List.mem_cons_self ..) e2.symm
end
theorem three_bx (w : World) (v1 v2 v3 : Value) (t1 t2 t3 : TypeId) : ∃ W, ((w.alloc (.cells #[v1] t1)).alloc (.cells #[v2] t2)).alloc (.cells #[v3] t3) = W ∧ Below w.heap.size w W ∧ W.heap.size = w.heap.size + 1 + 1 + 1 ∧ W.heap[w.heap.size]? = some (.cells #[v1] t1 (0, 0)) ∧ W.heap[w.heap.size + 1]? = some (.cells #[v2] t2 (0, 0)) ∧ W.heap[w.heap.size + 1 + 1]? = some (.cells #[v3] t3 (0, 0)) := by
  obtain ⟨W2, h2, b2, e1, e2⟩ := two_bx w v1 v2 t1 t2
  have s2 : W2.heap.size = w.heap.size + 1 + 1 := by rw [← h2]; simp
  rw [h2]
  have q3 := below_new W2 (.cells #[v3] t3)
  have e3 := heap_alloc_new W2 (.cells #[v3] t3)
  rw [s2] at e3
  exact ⟨_, rfl, b2.trans (q3.mono b2.size), by simp [s2], (q3.block _ (by omega)).trans e1, (q3.block _ (by omega)).trans e2, e3⟩
theorem two9 {α : Type} {l : Array α} (h : l.size = 2) : ∃ a b, l = #[a, b] := by
  obtain ⟨l⟩ := l
  match l, h with
  | [a, b], _ => exact ⟨a, b, rfl⟩
theorem fill_va (o : Va) (z : Value) (h : z.cells.size = EV.N) : Instr.fill (fun i => some (i * EV.N, EV.N)) ((Array.range (1 * EV.N)).map (z.cells[· % z.cells.size]!)) [(0, .agg (EV.cells o).toArray)] = some (EV.cells o).toArray := by
  obtain ⟨a, b, hz⟩ := two9 (show z.cells.size = 2 from h)
  rw [hz]
  obtain ⟨nu, ac⟩ := o
  kernel_rfl
theorem holders_len {L : Lg} (h : LgI L) (c : Int) : (holdersH L.hl c).length ≤ 64 := by
  rw [← holders_fm h c]
  exact Nat.le_trans (List.length_filterMap_le _ _) h.len
/-- In Mark: the variations so far in a variable's row, the ledger marked so far. -/
structure ImM (W3 : World) (g ba bp b : Nat) (L : Lg) (p : Int) (cl : Bool) (pre : List Po) (v : Value) (U : World) : Prop where
  var : U.heap[b]? = some (.cells #[v] 42 (0, 0))
  own : EV.Own 62 U W3.heap.size v (pre.map (marV p))
  dl : Dl U g ba bp ⟨L.fund, L.al, marH p cl pre L.hl⟩
  low : ∀ k, k < W3.heap.size → k ≠ bp → k ≠ b → U.heap[k]? = W3.heap[k]?
  up : W3.heap.size ≤ U.heap.size
  b0 : Below 0 W3 U
def SvM (b bp : Nat) (A : World) (k : Nat) : Prop := Sv b A k ∨ k = bp
section
variable {W3 U U' : World} {g ba bp b : Nat} {L : Lg} {p : Int} {cl : Bool} {pre : List Po} {v : Value}
theorem ImM.cell (h : ImM W3 g ba bp b L p cl pre v U) : U.cell? ⟨b, 0, none⟩ = some v := by rw [cell_of_row _ _ _ _ _ _ h.var]; rfl
theorem ImM.sv (h : ImM W3 g ba bp b L p cl pre v U) {k : Nat} : SvM b bp U k ↔ (k = b ∨ v.ownBlock = some k ∨ k = bp) := by
  unfold SvM Sv
  have hc := h.cell
  constructor
  · rintro ((rfl | ⟨a, n, c, e, hb⟩) | rfl)
    · exact .inl rfl
    · rw [hc] at e
      cases e
      exact .inr (.inl (by rw [← hb]; rfl))
    · exact .inr (.inr rfl)
  · rintro (rfl | e | rfl)
    · exact .inl (.inl rfl)
    · obtain ⟨A, n, c, rfl⟩ := gown_any h.own
      cases A with
      | none => cases e
      | some a => cases e; exact .inl (.inr ⟨a, n, c, hc, rfl⟩)
    · exact .inr rfl
theorem ImM.lt (h : ImM W3 g ba bp b L p cl pre v U) {k : Nat} (hk : SvM b bp U k) : k < U.heap.size := by
  rcases h.sv.1 hk with rfl | e | rfl
  · exact (Array.getElem?_eq_some_iff.1 h.var).1
  · exact (gown_lt h.own e).2
  · exact h.dl.mp.lt
theorem ImM.below (hb : b < W3.heap.size) (h : ImM W3 g ba bp b L p cl pre v U) (q : Below U.heap.size U U') : ImM W3 g ba bp b L p cl pre v U' :=
  ⟨(q.block b (Nat.lt_of_lt_of_le hb h.up)).trans h.var, gown_below h.own q, h.dl.below q, fun k h1 h2 h3 => (q.block k (Nat.lt_of_lt_of_le h1 h.up)).trans (h.low k h1 h2 h3), Nat.le_trans h.up q.size, h.b0.trans (q.mono (Nat.zero_le _))⟩
theorem ImM.calm (hb : b < W3.heap.size) (hd : g < W3.heap.size ∧ ba < W3.heap.size ∧ bp < W3.heap.size) : Calm W3.heap.size (SvM b bp) (fun (pre : List Po) U => ∃ v, ImM W3 g ba bp b L p cl pre v U) := by
  intro pre A C ⟨v, h⟩ q hs
  refine ⟨v, (q.block b hb).trans h.var, gown_same h.own (fun k hk => hs k (h.sv.2 (.inr (.inl hk))) (by
    obtain ⟨cur, e⟩ := gown_cells h.own hk
    exact ⟨_, _, _, e⟩)), ⟨(q.block g hd.1).trans h.dl.blk, h.dl.ma.same (q.block ba hd.2.1), h.dl.mp.same (q.block bp hd.2.2), h.dl.ne, h.dl.inv⟩, fun k h1 h2 h3 => (q.block k h1).trans (h.low k h1 h2 h3), Nat.le_trans h.up q.size, h.b0.trans (q.mono (Nat.zero_le _))⟩
end
theorem kn_body {N0 : Nat} {S : World → Nat → Prop} {W0 W U : World} (k : Kn N0 S W0 W) (f : Fr (fun j => S W j ∨ W0.heap.size ≤ j) W U) (h2 : ∀ j, S U j → S W j ∨ W.heap.size ≤ j) (h1 : ∀ j, S U j → j < U.heap.size) : Kn N0 S W0 U := fun wf => by
  obtain ⟨k1, k2, k3, k4⟩ := k wf
  refine ⟨h1, fun j hj => ?_, k3.trans f.b0, fun j hj hn hc => ?_⟩
  · rcases h2 j hj with c | c
    · exact k2 j c
    · exact .inr (Nat.le_trans k3.size c)
  · refine (f.at' j (Nat.lt_of_lt_of_le hj k3.size) (fun c => ?_)).trans (k4 j hj hn hc)
    rcases c with c | c
    · rcases k2 j c with c | c
      · exact hn c
      · omega
    · omega
theorem still_svm {b bp N : Nat} (hb : b < N) : Still (SvM b bp) N := fun A B hA hk k hs => hs.imp (fun h => Still.var hb A B hA hk k h) id
set_option maxRecDepth 100000 in
set_option maxHeartbeats 16000000 in
theorem lmark9 {g ba bp : Nat} {L : Lg} (c p : Int) (cl : Bool) (w : World) (h : Dl w g ba bp L) (hc : U32' c) :
    Calls Try.prog 17 #[.pointer (some ⟨g, 0, none⟩), .int .u32 c, .int .i64 p, .bool cl] w fun e w' => ∃ v, e = .returned (.tuple #[v, .int .i64 (marE c p)]) ∧ EV.Own 62 w' w.heap.size v (marX L c p) ∧ AfL w g ba bp (marL L c p cl) w' := by
  have hz := zero_po
  obtain ⟨V, hV, bV, sV, e1, e2, e3⟩ := three_bx w (.pointer (some ⟨g, 0, none⟩)) (.int .i64 p) (.bool cl) 23 2 4
  have HD := Lib.hid h
  have DV := Lib.hid (h.below bV)
  have MS := Lib.hid (lmiss9 DV.out)
  have OP := Lib.hid (lone9 p 10000000 V)
  have HV := Lib.hid hV
  have BV := Lib.hid (And.intro bV sV)
  have EV' := Lib.hid (And.intro e1 (And.intro e2 e3))
  have v4 : V.cell? ⟨w.heap.size, 0, none⟩ = some (.pointer (some ⟨g, 0, none⟩)) := by rw [cell_of_row _ _ _ _ _ _ e1]; rfl
  have v6 : V.cell? ⟨w.heap.size + 1, 0, none⟩ = some (.int .i64 p) := by rw [cell_of_row _ _ _ _ _ _ e2]; rfl
  have HC := Lib.hid hc
  have E0 : Hid (marE c p = if c = 0 ∨ oneB p mQ = false then 2 else 0) := Lib.hid rfl
  have bad : Hid (marE c p = 2 → marX L c p = [] ∧ marL L c p cl = L) := Lib.hid fun e => ⟨by unfold marX; rw [e]; exact if_neg (by decide), by unfold marL; rw [e]; exact if_neg (by decide)⟩
  have good : Hid (marE c p = 0 → marX L c p = (holdersH L.hl c).map (marV p) ∧ marL L c p cl = ⟨L.fund, L.al, marH p cl (holdersH L.hl c) L.hl⟩) := Lib.hid fun e => ⟨by unfold marX; rw [e]; exact if_pos rfl, by unfold marL; rw [e]; exact if_pos rfl⟩
  clear h hc hV bV sV e1 e2 e3
  refine calls_marks Try.func17 rfl ?_
  simp only [Try.ntmps17, List.size_toArray, List.length_cons, List.length_nil, Nat.reduceAdd, Nat.reduceSub, Array.replicate_succ, Array.replicate_zero, List.push_toArray, List.append_toArray, List.nil_append, List.cons_append]
  go_wp2_with fail
  rw [HV.out]
  refine MS.out.mono ?_; rintro e w2 ⟨rfl, rfl⟩
  by_cases h0 : c = 0
  · have d1 : decide (c = 0) = true := decide_eq_true h0
    have d2 : (c == 0) = true := by simpa using h0
    have E := Lib.hid (show marE c p = 2 by rw [E0.out]; exact if_pos (.inl h0))
    clear h0
    go_wp2_with fail
    refine ret_marks [] rfl (by simp) (by simp) (results_tmp2 rfl _ _ _) ⟨.slice none 0 0, by rw [E.out]; rfl, ?_, ?_⟩
    · rw [(bad.out E.out).1]; exact gown_nil _ _
    · rw [(bad.out E.out).2]; exact ⟨DV.out, Fr.below BV.out.1⟩
  · have N0 := Lib.hid h0
    have d1 : decide (c = 0) = false := decide_eq_false h0
    have d2 : (c == 0) = false := by simpa using h0
    clear h0
    go_wp2_with fail
    refine OP.out.mono ?_; rintro e w2 ⟨rfl, rfl⟩
    cases ho : oneB p 10000000
    · have E := Lib.hid (show marE c p = 2 by rw [E0.out]; exact if_pos (.inr ho))
      go_wp2_with fail
      refine ret_marks [] rfl (by simp) (by simp) (results_tmp2 rfl _ _ _) ⟨.slice none 0 0, by rw [E.out]; rfl, ?_, ?_⟩
      · rw [(bad.out E.out).1]; exact gown_nil _ _
      · rw [(bad.out E.out).2]; exact ⟨DV.out, Fr.below BV.out.1⟩
    · have hp : 1 ≤ p ∧ p ≤ 10000000 := by simpa [oneB] using ho
      have E := Lib.hid (show marE c p = 0 by rw [E0.out]; exact if_neg (fun cc => cc.elim N0.out (fun k => by rw [show oneB p mQ = true from ho] at k; cases k)))
      have HPP := Lib.hid hp
      clear ho hp
      obtain ⟨V2, hV2⟩ : ∃ V2, V.alloc (.cells #[.slice none 0 0] 42) = V2 := ⟨_, rfl⟩
      have b2 : Below V.heap.size V V2 := hV2 ▸ below_new V _
      have eb : V2.heap[V.heap.size]? = some (.cells #[.slice none 0 0] 42 (0, 0)) := hV2 ▸ heap_alloc_new V _
      have sV2 : V2.heap.size = V.heap.size + 1 := by rw [← hV2]; simp
      have D2 := Lib.hid (DV.out.below b2)
      have HO := Lib.hid (lholdersW9 D2.out.lb D2.out.ma D2.out.inv HC.out)
      have HV2 := Lib.hid hV2
      have B2 := Lib.hid (And.intro b2 (And.intro eb sV2))
      have v4' : (V.alloc (.cells #[.slice none 0 0] 42)).cell? ⟨w.heap.size, 0, none⟩ = some (.pointer (some ⟨g, 0, none⟩)) := cell_below v4 (below_new _ _) (Nat.le_refl _)
      clear hV2 b2 eb sV2
      go_wp2_with fail
      rw [HV2.out]
      refine HO.out.mono ?_; rintro e W3 ⟨gf, lb, T, rfl, q1, en, hT, hTba, hTg, tell⟩
      have TL := Lib.hid tell
      have EN := Lib.hid en
      have Q1 := Lib.hid q1
      have HT := Lib.hid hT
      clear q1 en hT tell hTba hTg
      go_wp2_with fail
      refine (wpIn_wide (n := 9)).1 ?_
      have hB2 := B2.out.2.2
      have hbl : V.heap.size < W3.heap.size := by have := Q1.out.size; omega
      have D3 := D2.out.below Q1.out
      have hvar : W3.heap[V.heap.size]? = some (.cells #[.slice none 0 0] 42 (0, 0)) := (Q1.out.block _ (by omega)).trans B2.out.2.1
      have I0 : ImM W3 g ba bp V.heap.size L p cl [] (.slice none 0 0) W3 := ⟨hvar, gown_nil _ _, D3, fun _ _ _ _ => rfl, Nat.le_refl _, Below.refl _ _⟩
      have ZC : Hid (W3.cell? ⟨w.heap.size, 0, none⟩ = some (.pointer (some ⟨g, 0, none⟩)) ∧ W3.cell? ⟨w.heap.size + 1, 0, none⟩ = some (.int .i64 p) ∧ W3.cell? ⟨w.heap.size + 1 + 1, 0, none⟩ = some (.bool cl)) := Lib.hid (by
        have hs := BV.out.2
        refine ⟨?_, ?_, ?_⟩
        · rw [cell_of_row _ _ _ _ _ _ ((Q1.out.block _ (by omega)).trans ((B2.out.1.block _ (by omega)).trans EV'.out.1))]; rfl
        · rw [cell_of_row _ _ _ _ _ _ ((Q1.out.block _ (by omega)).trans ((B2.out.1.block _ (by omega)).trans EV'.out.2.1))]; rfl
        · rw [cell_of_row _ _ _ _ _ _ ((Q1.out.block _ (by omega)).trans ((B2.out.1.block _ (by omega)).trans EV'.out.2.2))]; rfl)
      have dlt : g < W3.heap.size ∧ ba < W3.heap.size ∧ bp < W3.heap.size := ⟨D3.gl, D3.ma.lt, D3.mp.lt⟩
      have DLT := Lib.hid dlt
      have HBL := Lib.hid hbl
      have BPW : Hid (bp < w.heap.size ∧ g < w.heap.size ∧ ba < w.heap.size) := Lib.hid ⟨HD.out.mp.lt, HD.out.gl, HD.out.ma.lt⟩
      have B3 : Hid (Below w.heap.size w W3) := Lib.hid (by
        have hs := BV.out.2
        exact (BV.out.1.trans (B2.out.1.mono (by omega))).trans (Q1.out.mono (by omega)))
      have I0' := Lib.hid I0
      have SZ := Lib.hid (And.intro BV.out.2 hB2)
      clear hB2 D3 hvar I0 v4 v6 dlt hbl
      refine range_calmW (S := SvM V.heap.size bp) (N0 := W3.heap.size) (Sd := fun xs => xs = holdersH L.hl c) (Sp := fun pre => pre <+: holdersH L.hl c) (Pr := fun xs => xs <+: holdersH L.hl c) (PP := PPh bp L.hl c) (encs := encP) (by decide) rfl EN.out (still_svm HBL.out) (Nat.le_refl _)
        (TL.out W3 (SvM V.heap.size bp) 8 W3.heap.size (Fr.refl _ _) (still_svm HBL.out) (Nat.le_refl _) (fun k hk => .inl (HT.out k hk).1) (fun k hk => I0'.out.lt hk) (fun k hk cc => ?apT) (by decide)) (fun _ => rfl)
        (fun pre U => ∃ v, ImM W3 g ba bp V.heap.size L p cl pre v U) (fun cd pre U => False)
        (ImM.calm HBL.out DLT.out) (fun cd pre A C h _ _ => h) ?hPP ⟨_, I0'.out⟩
        (fun x W0 a' U => ∃ bx, W0.heap.size ≤ bx ∧ W3.heap.size ≤ bx ∧ EP.Bx 47 U bx x ∧ a' = { tmps := #[.pointer (some ⟨g, 0, none⟩), .int .u32 c, .int .i64 p, .bool cl, .pointer (some ⟨w.heap.size, 0, none⟩), undef, .pointer (some ⟨w.heap.size + 1, 0, none⟩), .pointer (some ⟨w.heap.size + 1 + 1, 0, none⟩), .slice none 0 0, .int .i64 0, .pointer (some ⟨V.heap.size, 0, none⟩), .pointer (some ⟨bx, 0, none⟩), undef, .bool false, .pointer (some ⟨g, 0, none⟩), .bool false, .bool false, .int .u32 c, .bool false, .bool false, .int .i64 p, .bool true, .bool false, .bool false, .pointer (some ⟨g, 0, none⟩), .int .u32 c, .func (.func gf) #[] lb, .agg (EP.cells x).toArray, undef, undef, undef, undef, undef, undef, undef, undef, undef, undef, undef, undef, undef, undef, undef, undef, undef, undef, undef, undef, undef, undef, undef], defers := [] })
        (fun x W0 a' U l o o' hx hl ho hc => by
          obtain ⟨bx, h0, h1, h2, h3⟩ := hx
          refine ⟨bx, h0, h1, ?_, h3⟩
          show (U.putObj l o').heap[bx]? = _
          rw [World.putObj_heap_other (fun e => ?_)]
          · exact h2
          · subst e
            rw [show U.heap[bx]? = _ from h2] at ho
            cases ho
            cases hc) ?assign ?body ?done ?stop
      case apT =>
        rcases I0'.out.sv.1 cc with rfl | e | rfl
        · rcases (HT.out _ hk).2 with (e | e) | ⟨hge, _⟩
          · have := BPW.out; have := SZ.out; omega
          · have := BPW.out; have := SZ.out; omega
          · have := SZ.out; omega
        · cases e
        · rcases (HT.out _ hk).2 with (e | e) | ⟨hge, _⟩
          · exact HD.out.np e.symm
          · exact HD.out.ne e.symm
          · have := BPW.out; have := SZ.out; omega
      case hPP =>
        rintro pre U ⟨v, h⟩
        exact ⟨_, h.dl.mp, fun a ha => mar_at c a pre L.hl HD.out.inv.psr ha⟩
      case assign =>
        rintro l pre x U KK ⟨v, h1⟩ _ hK
        have HZ := Lib.hid (gbx_new (E := EP) (te := 47) U zeroPo)
        refine region_in rfl (fun ⟨_, _, h⟩ => h) ?_
        go_wp2_with (refine gwl_store TP x U.heap.size HZ.out rfl rfl ?_)
        have q : Below U.heap.size U ((U.alloc (.cells (EP.cells zeroPo).toArray 47)).setRow U.heap.size (EP.cells x).toArray) := below_row0 (below_new U _) (Nat.le_refl _)
        refine hK _ _ ⟨q.size, fun k o _ hk _ => (q.block k (Array.getElem?_eq_some_iff.1 hk).1).trans hk⟩ (Kn.below (still_svm HBL.out) h1.up q) ⟨v, h1.below HBL.out q⟩ ⟨U.heap.size, Nat.le_refl _, h1.up, gbx_set HZ.out, rfl⟩
      case body =>
        rintro l pre x W0 a' U - - hkn ⟨v, him⟩ ⟨bx, hb0, hb3, hbx, rfl⟩ hpx
        have hxh := hpx.subset (List.mem_append_right pre (List.mem_singleton.2 rfl))
        have hxl : x ∈ L.hl := (List.mem_filter.1 hxh).1
        have hpre : ∀ y, y ∈ pre ++ [x] → y ∈ L.hl := fun y hy => (List.mem_filter.1 (hpx.subset hy)).1
        have pk := HD.out.inv.pok x hxl
        have hlen : (pre ++ [x]).length ≤ 64 := Nat.le_trans hpx.length_le (holders_len HD.out.inv c)
        have NI := Lib.hid (mar_inv' (cl := cl) HD.out.inv HPP.out (pre ++ [x]) hpre)
        have UX : Hid (U32' x.co ∧ U32' x.ac) := Lib.hid ⟨⟨by have := pk.1.1; omega, pk.1.1.2⟩, by have := pk.1.2; omega, pk.1.2.2⟩
        have hqp := mul_q (by have := pk.2.1.1; simpa only [mQ] using this) HPP.out
        have hbb := pk.2.1.2
        simp only [mF] at hbb
        obtain ⟨qp, hqp'⟩ : ∃ qp, x.q * p = qp := ⟨_, rfl⟩
        rw [hqp'] at hqp
        have hw1 : wrap64 (x.q * p) = qp := by rw [hqp']; unfold wrap64; omega
        have hw2 : wrap64 (qp - x.b) = qp - x.b := by unfold wrap64; omega
        have EVX : Hid (marV p x = ⟨x.ac, qp - x.b⟩) := Lib.hid (by unfold marV; rw [hqp'])
        have EPX : Hid (∀ b, marP p b x = if b then ⟨x.co, x.ac, 0, 0⟩ else ⟨x.co, x.ac, x.q, qp⟩) := Lib.hid fun b => by unfold marP; rw [hqp']
        have hsz := SZ.out
        have hbpw := BPW.out
        have hbl := HBL.out
        have lowc : ∀ k v0, k < w.heap.size + 3 → w.heap.size ≤ k → W3.cell? ⟨k, 0, none⟩ = some v0 → U.cell? ⟨k, 0, none⟩ = some v0 := fun k v0 h1 h2 h3 => by
          rw [← h3]
          exact World.cell?_of_block (him.low k (by omega) (by omega) (by omega))
        obtain ⟨A, n1, c1, rfl⟩ := gown_any him.own
        have kp := lowc _ _ (by omega) (by omega) ZC.out.2.1
        have kv := him.cell
        have k1 : U.cell? ⟨bx, 1, none⟩ = some (.int .u32 x.ac) := gbx_cell hbx 1
        have k2 : U.cell? ⟨bx, 2, none⟩ = some (.int .i64 x.q) := gbx_cell hbx 2
        have k3 : U.cell? ⟨bx, 3, none⟩ = some (.int .i64 x.b) := gbx_cell hbx 3
        have hrow : ∀ k, (Value.slice A n1 c1).ownBlock = some k → W3.heap.size ≤ k ∧ k ≠ bx := fun k hk => by
          refine ⟨(gown_lt him.own hk).1, ?_⟩
          rintro rfl
          obtain ⟨cur, hh⟩ := gown_cells him.own hk
          rw [show U.heap[k]? = _ from hbx] at hh
          injection hh with hh
          injection hh with _ hh _
          exact absurd hh (by decide)
        -- what turns
        have DL : Hid (∀ U', Fr (fun k => k = V.heap.size ∨ (Value.slice A n1 c1).ownBlock = some k ∨ k = bx) U U' → Dl U' g ba bp ⟨L.fund, L.al, marH p cl pre L.hl⟩) := Lib.hid fun U' f => him.dl.keep f (fun k hk cc => by
          have hk' : k < w.heap.size := by rcases hk with rfl | rfl | rfl <;> omega
          rcases cc with cc | cc | cc
          · omega
          · have := (hrow k cc).1; omega
          · omega)
        have CZ : Hid (∀ U', Fr (fun k => k = V.heap.size ∨ (Value.slice A n1 c1).ownBlock = some k ∨ k = bx) U U' → U'.cell? ⟨w.heap.size, 0, none⟩ = some (.pointer (some ⟨g, 0, none⟩)) ∧ U'.cell? ⟨w.heap.size + 1 + 1, 0, none⟩ = some (.bool cl)) := Lib.hid fun U' f => by
          have nn : ∀ k, k < w.heap.size + 3 → ¬ (k = V.heap.size ∨ (Value.slice A n1 c1).ownBlock = some k ∨ k = bx) := fun k hk cc => by
            rcases cc with cc | cc | cc
            · omega
            · have := (hrow k cc).1; omega
            · omega
          exact ⟨cell_fr (lowc _ _ (by omega) (by omega) ZC.out.1) f (nn _ (by omega)), cell_fr (lowc _ _ (by omega) (by omega) ZC.out.2.2) f (nn _ (by omega))⟩
        have FIN : Hid (∀ (v' : Value) (U1 wk : World), Fr (fun k => k = V.heap.size ∨ (Value.slice A n1 c1).ownBlock = some k ∨ k = bx) U U1 → (U1.heap[V.heap.size]? = some (.cells #[v'] 42 (0, 0)) ∧ EV.Own 62 U1 W3.heap.size v' ((pre ++ [x]).map (marV p)) ∧ (v'.ownBlock = (Value.slice A n1 c1).ownBlock ∨ ∀ k, v'.ownBlock = some k → U.heap.size ≤ k)) →
            Fr (fun k => k = bp) U1 wk → Dl wk g ba bp ⟨L.fund, L.al, marH p cl (pre ++ [x]) L.hl⟩ → KeepsFrom W3.heap.size U wk ∧ Kn W3.heap.size (SvM V.heap.size bp) W0 wk ∧ ∃ v, ImM W3 g ba bp V.heap.size L p cl (pre ++ [x]) v wk) := Lib.hid fun v' U1 wk f hv' fk dk => by
          obtain ⟨hv1, hv2, hv3⟩ := hv'
          have nbp : ∀ k, v'.ownBlock = some k → k ≠ bp := fun k hk => by have := (gown_lt hv2 hk).1; omega
          have fU : Fr (fun k => SvM V.heap.size bp U k ∨ W0.heap.size ≤ k) U wk := (f.mono fun k hk => by
            rcases hk with hk | hk | hk
            · exact .inl (him.sv.2 (.inl hk))
            · exact .inl (him.sv.2 (.inr (.inl hk)))
            · exact .inr (by omega)).same (fk.mono fun k hk => .inl (him.sv.2 (.inr (.inr hk))))
          have im' : ImM W3 g ba bp V.heap.size L p cl (pre ++ [x]) v' wk := by
            refine ⟨(fk.at' _ (Array.getElem?_eq_some_iff.1 hv1).1 (by omega)).trans hv1, gown_fr hv2 fk nbp, dk, fun k h1 h2 h3 => ?_, Nat.le_trans him.up (Nat.le_trans f.size fk.size), (him.b0.trans f.b0).trans fk.b0⟩
            have hk1 : k < U.heap.size := Nat.lt_of_lt_of_le h1 him.up
            refine (fk.at' k (Nat.lt_of_lt_of_le hk1 f.size) h2).trans ((f.at' k hk1 (fun cc => ?_)).trans (him.low k h1 h2 h3))
            rcases cc with cc | cc | cc
            · exact h3 cc
            · have := (hrow k cc).1; omega
            · omega
          refine ⟨⟨fU.size, fun k o hk hh ho => ?_⟩, kn_body hkn fU (fun j hj => ?_) (fun j hj => im'.lt hj), v', im'⟩
          · have hk1 := (Array.getElem?_eq_some_iff.1 hh).1
            refine (fk.at' k (Nat.lt_of_lt_of_le hk1 f.size) (by omega)).trans ((f.at' k hk1 (fun cc => ?_)).trans hh)
            rcases cc with cc | cc | cc
            · omega
            · obtain ⟨cur, e⟩ := gown_cells him.own cc
              rw [hh] at e; cases e; cases ho
            · subst cc
              rw [show U.heap[k]? = _ from hbx] at hh; cases hh; cases ho
          · rcases im'.sv.1 hj with rfl | e | rfl
            · exact .inl (him.sv.2 (.inl rfl))
            · rcases hv3 with q | q
              · exact .inl (him.sv.2 (.inr (.inl (by rw [← q]; exact e))))
              · exact .inr (q j e)
            · exact .inl (him.sv.2 (.inr (.inr rfl)))
        have O := Lib.hid him.own
        have HBX := Lib.hid hbx
        have UP := Lib.hid him.up
        have VR := Lib.hid him.var
        have HROW := Lib.hid hrow
        have LEN : Hid (pre.length + 1 ≤ 64) := Lib.hid (by simpa using hlen)
        have HB3 := Lib.hid hb3
        have BXL : Hid (bx < U.heap.size) := Lib.hid (Array.getElem?_eq_some_iff.1 hbx).1
        clear hxh hxl hpre pk hlen hqp hbb lowc hrow him hbx hpx hkn hb0 hb3 hsz hbpw hbl hqp'
        refine wpIn_block ?_
        apply wpIn_seq_k; intro K8 h8
        have H8 := Lib.hid h8
        clear h8
        refine region_in rfl (fun ⟨_, _, h⟩ => h) ?_
        go_wp2_with fail
        refine H8.out _ _ ?_
        apply wpIn_seq_k; intro K9 h9
        have H9 := Lib.hid h9
        clear h9 H8
        obtain ⟨W6, hW6⟩ : ∃ W6, U.alloc (.cells (EV.cells (marV p x)).toArray 62) = W6 := ⟨_, rfl⟩
        have b6 : Below U.heap.size U W6 := hW6 ▸ below_new U _
        have X6 : Hid (EV.Bx 62 W6 U.heap.size (marV p x)) := Lib.hid (hW6 ▸ gbx_new (E := EV) (te := 62) U (marV p x))
        have s6 : W6.heap.size = U.heap.size + 1 := by rw [← hW6]; simp
        have O6 := Lib.hid (gown_below O.out b6)
        have HW6 := Lib.hid hW6
        have B6 := Lib.hid (And.intro b6 s6)
        have VR6 := Lib.hid ((b6.block _ (by have := UP.out; have := HBL.out; omega)).trans VR.out)
        clear hW6 b6 s6
        refine region_in rfl (fun ⟨_, _, h⟩ => h) ?_
        go_wp2_with (first | (refine gwl_bs TV (s := ⟨x.ac, qp - x.b⟩) rfl (fill_va _) ?_ (by decide); rw [← EVX.out, HW6.out]) | (at_builtin; refine gpl_app TV rfl (.tmp 32) (.tmp 40) rfl W3.heap.size (.slice A n1 c1) (pre.map (marV p)) rfl O6.out _ 1 1 [marV p x] rfl (gbx_rd X6.out) (by simp) (by have := LEN.out; rw [List.length_map]; omega) (by have := UP.out; have := B6.out.2; omega) ?_; intro v' w7 own7 gr7 loc7; obtain ⟨A', c', ev', _⟩ := gown_form own7; subst ev'; have kb7 : w7.cell? ⟨V.heap.size, 0, none⟩ = some (.slice A n1 c1) := (by rw [cell_of_row _ _ _ _ _ _ ((gr7.block _ (Array.getElem?_eq_some_iff.1 VR6.out).1 (fun e => absurd (HROW.out _ e.symm).1 (by have := HBL.out; omega))).trans VR6.out)]; rfl); have vr7 : w7.heap[V.heap.size]? = some (.cells #[.slice A n1 c1] 42 (0, 0)) := (gr7.block _ (Array.getElem?_eq_some_iff.1 VR6.out).1 (fun e => absurd (HROW.out _ e.symm).1 (by have := HBL.out; omega))).trans VR6.out; have fz7 : w7.frozen? ⟨V.heap.size, 0, none⟩ = false := (by simp [World.frozen?, vr7])))
        have elen : (List.map (marV p) pre ++ [marV p x]).length = pre.length + 1 := by simp
        rw [elen] at own7 loc7
        clear elen
        have L7 : Hid ((Value.slice A' (pre.length + 1) c').ownBlock = (Value.slice A n1 c1).ownBlock ∨ ∀ k, (Value.slice A' (pre.length + 1) c').ownBlock = some k → U.heap.size ≤ k) := Lib.hid (by
          rcases loc7 with q | q
          · exact .inl q
          · refine .inr fun k hk => ?_
            have e := hk.symm.trans q
            injection e with e
            have := B6.out.2
            omega)
        have f7 : Fr (fun k => k = V.heap.size ∨ (Value.slice A n1 c1).ownBlock = some k ∨ k = bx) U w7 := (Fr.below B6.out.1).same (Fr.grown gr7 (fun k hk => .inr (.inl hk)))
        have x7 : EP.Bx 47 w7 bx x := (gr7.block bx (by have := BXL.out; have := B6.out.2; omega) (fun e => (HROW.out bx e.symm).2 rfl)).trans (gbx_below HBX.out B6.out.1)
        refine H9.out _ _ ?_
        apply wpIn_seq_k; intro K10 h10
        have H10 := Lib.hid h10
        clear h10 H9
        obtain ⟨W8, hW8⟩ : ∃ W8, w7.setCell ⟨V.heap.size, 0, none⟩ (.slice A' (pre.length + 1) c') = W8 := ⟨_, rfl⟩
        rw [hW8]
        have f8 : Fr (fun k => k = V.heap.size ∨ (Value.slice A n1 c1).ownBlock = some k ∨ k = bx) U W8 := by rw [← hW8]; exact f7.same (Fr.set (p := ⟨V.heap.size, 0, none⟩) (.inl rfl) _)
        have x8 : EP.Bx 47 W8 bx x := by rw [← hW8]; exact (heap_setCell_other w7 ⟨V.heap.size, 0, none⟩ bx _ (by show bx ≠ V.heap.size; have := HB3.out; have := HBL.out; omega)).trans x7
        have r8 : W8.heap[V.heap.size]? = some (.cells #[.slice A' (pre.length + 1) c'] 42 (0, 0)) := by rw [← hW8]; exact heap_setCell_same w7 V.heap.size 0 _ _ _ vr7
        have o8 : EV.Own 62 W8 W3.heap.size (.slice A' (pre.length + 1) c') ((pre ++ [x]).map (marV p)) := by
          rw [List.map_append, List.map_singleton, ← hW8]
          exact gown_same own7 (fun k hk => heap_setCell_other w7 ⟨V.heap.size, 0, none⟩ k _ (by show k ≠ V.heap.size; have := (gown_lt own7 hk).1; have := HBL.out; omega))
        have j3 : W8.cell? ⟨bx, 3, none⟩ = some (.int .i64 x.b) := gbx_cell x8 3
        have fz8 : ∀ j, W8.frozen? ⟨bx, j, none⟩ = false := fun j => gbx_fz x8 j
        obtain ⟨W9, hW9⟩ : ∃ W9, W8.setCell ⟨bx, 3, none⟩ (.int .i64 qp) = W9 := ⟨_, rfl⟩
        have f9 : Fr (fun k => k = V.heap.size ∨ (Value.slice A n1 c1).ownBlock = some k ∨ k = bx) U W9 := by rw [← hW9]; exact f8.same (Fr.set (p := ⟨bx, 3, none⟩) (.inr (.inr rfl)) _)
        have x9 : EP.Bx 47 W9 bx ⟨x.co, x.ac, x.q, qp⟩ := by rw [← hW9]; exact gbx_put (i := 3) x8 rfl
        have nr : ∀ k, (Value.slice A' (pre.length + 1) c').ownBlock = some k → k ≠ bx := fun k hk => by
          rintro rfl
          obtain ⟨cur, hh⟩ := gown_cells o8 hk
          rw [show W8.heap[k]? = _ from x8] at hh
          injection hh with hh
          injection hh with _ hh _
          exact absurd hh (by decide)
        have bxV : V.heap.size ≠ bx := by have := HB3.out; have := HBL.out; omega
        have r9 : W9.heap[V.heap.size]? = some (.cells #[.slice A' (pre.length + 1) c'] 42 (0, 0)) := by rw [← hW9]; exact (heap_setCell_other W8 ⟨bx, 3, none⟩ V.heap.size _ bxV).trans r8
        have o9 : EV.Own 62 W9 W3.heap.size (.slice A' (pre.length + 1) c') ((pre ++ [x]).map (marV p)) := by rw [← hW9]; exact gown_same o8 (fun k hk => heap_setCell_other W8 ⟨bx, 3, none⟩ k _ (nr k hk))
        have R9 := Lib.hid (And.intro f9 (And.intro x9 (And.intro r9 o9)))
        have NR := Lib.hid (And.intro nr bxV)
        have HW9 := Lib.hid hW9
        clear f7 x7 loc7 own7 gr7 vr7 kb7 fz7 hW8 f8 x8 r8 o8 f9 x9 r9 o9 nr bxV hW9
        refine region_in rfl (fun ⟨_, _, h⟩ => h) ?_
        go_wp2_with fail
        refine H10.out _ _ ?_
        rw [HW9.out]
        clear j3 fz8
        apply wpIn_seq_k; intro K11 h11
        have H11 := Lib.hid h11
        clear h11 H10
        apply wpIn_seq_k; intro K12 h12
        have H12 := Lib.hid h12
        clear h12
        have kcl := (CZ.out W9 R9.out.1).2
        cases cl
        · refine region_in rfl (fun ⟨_, _, h⟩ => h) ?_
          go_wp2_with fail
          refine H12.out _ _ ?_
          refine wpIn_cond_false rfl ?_
          apply wpIn_skip
          have x10 : EP.Bx 47 W9 bx (marP p false x) := by rw [EPX.out]; exact R9.out.2.1
          refine H11.out _ _ ?_
          have KP := Lib.hid (lkeep9 (marP p false x) W9 (DL.out _ R9.out.1) ⟨by rw [(marP_key (p := p) (cl := false) x).1]; exact UX.out.1, by rw [(marP_key (p := p) (cl := false) x).2]; exact UX.out.2⟩ (by have := NI.out; rw [mar_snoc] at this; exact this))
          have RP := Lib.hid (gbx_rng x10)
          have z4 : W9.cell? ⟨w.heap.size, 0, none⟩ = some (.pointer (some ⟨g, 0, none⟩)) := (CZ.out _ R9.out.1).1
          have OO := Lib.hid (And.intro R9.out.2.2.1 (And.intro R9.out.2.2.2 L7.out))
          have FF := Lib.hid R9.out.1
          clear x10
          refine region_in rfl (fun ⟨_, _, h⟩ => h) ?_
          go_wp2_with (first | ((with_reducible refine gwl_load TP bx 0 RP.out ?_ ?_ ?_); rfl; rfl))
          refine KP.out.mono ?_; rintro e wk ⟨rfl, dk, fk⟩
          have DK := Lib.hid dk
          have FK := Lib.hid fk
          clear dk fk
          go_wp2_with fail
          exact FIN.out _ _ wk FF.out OO.out FK.out (by rw [mar_snoc]; exact DK.out)
        · have i2 : W9.cell? ⟨bx, 2, none⟩ = some (.int .i64 x.q) := gbx_cell R9.out.2.1 2
          have i3 : W9.cell? ⟨bx, 3, none⟩ = some (.int .i64 qp) := gbx_cell R9.out.2.1 3
          have fz9 : ∀ j, W9.frozen? ⟨bx, j, none⟩ = false := fun j => gbx_fz R9.out.2.1 j
          refine region_in rfl (fun ⟨_, _, h⟩ => h) ?_
          go_wp2_with fail
          refine H12.out _ _ ?_
          refine wpIn_cond_true rfl ?_
          refine region_in rfl (fun ⟨_, _, h⟩ => h) ?_
          go_wp2_with fail
          obtain ⟨WA, hWA⟩ : ∃ WA, (W9.setCell ⟨bx, 2, none⟩ (.int .i64 0)).setCell ⟨bx, 3, none⟩ (.int .i64 0) = WA := ⟨_, rfl⟩
          rw [hWA]
          have fA : Fr (fun k => k = V.heap.size ∨ (Value.slice A n1 c1).ownBlock = some k ∨ k = bx) U WA := by rw [← hWA]; exact (R9.out.1.same (Fr.set (p := ⟨bx, 2, none⟩) (.inr (.inr rfl)) _)).same (Fr.set (p := ⟨bx, 3, none⟩) (.inr (.inr rfl)) _)
          have xA : EP.Bx 47 WA bx (marP p true x) := by rw [EPX.out, ← hWA]; exact gbx_put (x := ⟨x.co, x.ac, 0, qp⟩) (i := 3) (gbx_put (x := ⟨x.co, x.ac, x.q, qp⟩) (i := 2) R9.out.2.1 rfl) rfl
          have rA : WA.heap[V.heap.size]? = some (.cells #[.slice A' (pre.length + 1) c'] 42 (0, 0)) := by rw [← hWA]; exact (heap_setCell_other _ ⟨bx, 3, none⟩ V.heap.size _ NR.out.2).trans ((heap_setCell_other W9 ⟨bx, 2, none⟩ V.heap.size _ NR.out.2).trans R9.out.2.2.1)
          have oA : EV.Own 62 WA W3.heap.size (.slice A' (pre.length + 1) c') ((pre ++ [x]).map (marV p)) := by rw [← hWA]; exact gown_same R9.out.2.2.2 (fun k hk => (heap_setCell_other _ ⟨bx, 3, none⟩ k _ (NR.out.1 k hk)).trans (heap_setCell_other W9 ⟨bx, 2, none⟩ k _ (NR.out.1 k hk)))
          clear i2 i3 fz9 hWA kcl
          refine H11.out _ _ ?_
          have KP := Lib.hid (lkeep9 (marP p true x) WA (DL.out _ fA) ⟨by rw [(marP_key (p := p) (cl := true) x).1]; exact UX.out.1, by rw [(marP_key (p := p) (cl := true) x).2]; exact UX.out.2⟩ (by have := NI.out; rw [mar_snoc] at this; exact this))
          have RP := Lib.hid (gbx_rng xA)
          have z4 : WA.cell? ⟨w.heap.size, 0, none⟩ = some (.pointer (some ⟨g, 0, none⟩)) := (CZ.out _ fA).1
          have OO := Lib.hid (And.intro rA (And.intro oA L7.out))
          have FF := Lib.hid fA
          clear fA xA rA oA
          refine region_in rfl (fun ⟨_, _, h⟩ => h) ?_
          go_wp2_with (first | ((with_reducible refine gwl_load TP bx 0 RP.out ?_ ?_ ?_); rfl; rfl))
          refine KP.out.mono ?_; rintro e wk ⟨rfl, dk, fk⟩
          have DK := Lib.hid dk
          have FK := Lib.hid fk
          clear dk fk
          go_wp2_with fail
          exact FIN.out _ _ wk FF.out OO.out FK.out (by rw [mar_snoc]; exact DK.out)
      case done =>
        rintro D xs U hD hS ⟨v, him⟩ hM
        subst hS
        obtain ⟨A, n1, c1, rfl⟩ := gown_any him.own
        have kv := him.cell
        have nd : ∀ k, k < W3.heap.size → k ≠ D := fun k hk => by omega
        have lw : W3.heap.size ≥ w.heap.size := B3.out.size
        have un : ∀ k, k ≠ D → (unmark [D] U).heap[k]? = U.heap[k]? := fun k hk => unmark_other [D] U k (by simpa using hk)
        have hb := BPW.out
        have ow : EV.Own 62 (unmark [D] U) w.heap.size (.slice A n1 c1) ((holdersH L.hl c).map (marV p)) := gown_low (gown_same him.own (fun k hk => un k (by
          rintro rfl
          obtain ⟨cur, e⟩ := gown_cells him.own hk
          rw [hM] at e
          cases e))) lw
        have dl : Dl (unmark [D] U) g ba bp ⟨L.fund, L.al, marH p cl (holdersH L.hl c) L.hl⟩ := ⟨(un g (nd g (by omega))).trans him.dl.blk, him.dl.ma.same (un ba (nd ba (by omega))), him.dl.mp.same (un bp (nd bp (by omega))), him.dl.ne, him.dl.inv⟩
        have b0 : Below 0 w (unmark [D] U) := unmark_below [D] U w 0 (fun _ _ => Nat.zero_le _) (Nat.zero_le _) ((B3.out.mono (Nat.zero_le _)).trans him.b0)
        have fr : Fr (LdS g ba bp) w (unmark [D] U) := ⟨b0, fun k hk hn => (un k (nd k (by omega))).trans ((him.low k (by omega) (fun e => hn (.inr (.inr e))) (by have := SZ.out; omega)).trans (B3.out.block k hk))⟩
        have OUT := Lib.hid (And.intro ow (And.intro dl fr))
        have HM := Lib.hid hM
        clear nd lw un hb ow dl b0 fr him hD hM
        go_wp2_with fail
        refine ret_marks [D] rfl (by simp) (fun F hF => ?_) (results_tmp2 rfl _ _ _) ⟨.slice A n1 c1, by rw [E.out]; rfl, ?_, ?_⟩
        · simp only [List.mem_cons, List.not_mem_nil, or_false] at hF
          subst hF
          exact HM.out
        · rw [(good.out E.out).1]; exact OUT.out.1
        · rw [(good.out E.out).2]; exact ⟨OUT.out.2.1, OUT.out.2.2⟩
      case stop =>
        rintro D cd pre U _ _ h _
        exact h.elim
end Go.Proofs.Ythnmpnepgagmmaa
