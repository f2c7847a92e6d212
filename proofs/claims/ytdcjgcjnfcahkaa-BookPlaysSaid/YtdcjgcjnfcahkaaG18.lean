/- The program's side: Reach. -/
import Derived.Test.YtdcjgcjnfcahkaaG17
import Derived.Test.YtdcjgcjnfcahkaaG05
namespace Go.Proofs.Ytdcjgcjnfcahkaa
open Go.RowKit Go.Shelf
set_option linter.unusedVariables false

/-- In Reach: what lies below N stays; the sum. -/
structure Ir (W0 : World) (N : Nat) (s : Int) (W : World) : Prop where
  at' : ∀ k, k < N → W.heap[k]? = W0.heap[k]?
  sm : W.heap[N]? = some (.cells #[.int .i64 s] 2 (0, 0))
  sz : W0.heap.size ≤ W.heap.size
  b0 : Below 0 W0 W
theorem Ir.below {W0 A C : World} {N B : Nat} {s : Int} (h : Ir W0 N s A) (b : Below B A C) (hB : N < B) : Ir W0 N s C :=
  ⟨fun k hk => (b.block k (by omega)).trans (h.at' k hk), (b.block N hB).trans h.sm, Nat.le_trans h.sz b.size, h.b0.trans (b.mono (Nat.zero_le _))⟩
theorem Ir.grow {W0 A C : World} {N : Nat} {s : Int} (h : Ir W0 N s A) (b : Below A.heap.size A C) (hN : N < W0.heap.size) : Ir W0 N s C := h.below b (Nat.lt_of_lt_of_le hN h.sz)
theorem Ir.put {W0 A : World} {N : Nat} {s : Int} (h : Ir W0 N s A) (z : Int) : Ir W0 N z (A.setCell ⟨N, 0, none⟩ (.int .i64 z)) :=
  ⟨fun k hk => (heap_setCell_other A ⟨N, 0, none⟩ k _ (by show k ≠ N; omega)).trans (h.at' k hk), heap_setCell_same A N 0 _ _ (.int .i64 z) h.sm, by have := h.sz; simp; omega, h.b0.setCell (Nat.zero_le _) _⟩
theorem fin_reach {w W4 W1 W : World} {N : Nat} {s : Int} (b4 : Below w.heap.size w W4) (q1 : Below W4.heap.size W4 W1) (h : Ir W1 N s W) (hN : w.heap.size ≤ N) : Below w.heap.size w W :=
  have b := b4.trans (q1.mono b4.size)
  ⟨(b.mono (Nat.zero_le _)).trans h.b0 |>.os, (b.mono (Nat.zero_le _)).trans h.b0 |>.tape, (b.mono (Nat.zero_le _)).trans h.b0 |>.output, Nat.le_trans b.size h.sz, fun k hk => (h.at' k (by omega)).trans (b.block k hk)⟩
theorem four_bx (w : World) (p : Option Addr) (pr nt : Int) : ∃ W4, (((w.alloc (.cells #[.pointer p] 42)).alloc (.cells #[.int .i64 pr] 2)).alloc (.cells #[.int .u32 nt] 29)).alloc (.cells #[.int .i64 0] 2) = W4 ∧ Below w.heap.size w W4 ∧
    W4.heap[w.heap.size]? = some (.cells #[.pointer p] 42 (0, 0)) ∧ W4.heap[w.heap.size + 1]? = some (.cells #[.int .i64 pr] 2 (0, 0)) ∧ W4.heap[w.heap.size + 1 + 1]? = some (.cells #[.int .u32 nt] 29 (0, 0)) ∧ W4.heap[w.heap.size + 1 + 1 + 1]? = some (.cells #[.int .i64 0] 2 (0, 0)) := by
  generalize h1 : w.alloc (.cells #[.pointer p] 42) = W1
  have e1 : W1.heap[w.heap.size]? = some (.cells #[.pointer p] 42 (0, 0)) := h1 ▸ heap_alloc_new w _
  have s1 : W1.heap.size = w.heap.size + 1 := by rw [← h1]; simp
  have q1 : Below w.heap.size w W1 := h1 ▸ below_new w _
  generalize h2 : W1.alloc (.cells #[.int .i64 pr] 2) = W2
  have e2 : W2.heap[W1.heap.size]? = some (.cells #[.int .i64 pr] 2 (0, 0)) := h2 ▸ heap_alloc_new W1 _
  have s2 : W2.heap.size = W1.heap.size + 1 := by rw [← h2]; simp
  have q2 : Below W1.heap.size W1 W2 := h2 ▸ below_new W1 _
  generalize h3 : W2.alloc (.cells #[.int .u32 nt] 29) = W3
  have e3 : W3.heap[W2.heap.size]? = some (.cells #[.int .u32 nt] 29 (0, 0)) := h3 ▸ heap_alloc_new W2 _
  have s3 : W3.heap.size = W2.heap.size + 1 := by rw [← h3]; simp
  have q3 : Below W2.heap.size W2 W3 := h3 ▸ below_new W2 _
  generalize h4 : W3.alloc (.cells #[.int .i64 0] 2) = W4
  have e4 : W4.heap[W3.heap.size]? = some (.cells #[.int .i64 0] 2 (0, 0)) := h4 ▸ heap_alloc_new W3 _
  have q4 : Below W3.heap.size W3 W4 := h4 ▸ below_new W3 _
  rw [s1] at e2
  rw [s2, s1] at e3
  rw [s3, s2, s1] at e4
  refine ⟨W4, rfl, ((q1.trans (q2.mono (by omega))).trans (q3.mono (by omega))).trans (q4.mono (by omega)), ?_, ?_, ?_, e4⟩
  · exact (q4.block _ (by omega)).trans ((q3.block _ (by omega)).trans ((q2.block _ (by omega)).trans e1))
  · exact (q4.block _ (by omega)).trans ((q3.block _ (by omega)).trans e2)
  · exact (q4.block _ (by omega)).trans e3
set_option maxRecDepth 100000 in
set_option maxHeartbeats 4000000 in
theorem sreach_of {w : World} {p : Option Addr} {F : Nat → Prop} {buy : Bool} {os : List Or} {pr nt : Int} (hp : I64' pr) (hnt : 0 ≤ nt ∧ nt ≤ 4294967295) (srt : Srt buy os) (hok : ∀ x, x ∈ os → x.ok) (hle : ∀ x, x ∈ os → 0 ≤ x.le ∧ x.le ≤ 1000000) (hlen : os.length ≤ 100)
    (A : ∀ W, Below w.heap.size w W → Calls Try.prog 51 #[.pointer p] W (AllO W F os)) (hF : ∀ k, F k → k < w.heap.size)
    (BT : ∀ W b, (∀ k, k < w.heap.size → W.heap[k]? = w.heap[k]?) → 0 < os.length → Calls Try.prog 82 #[.pointer p, .int .i64 pr, .int .i64 b] W fun e w' => e = .returned (.bool (btr buy pr b)) ∧ W = w') :
    Calls Try.prog 64 #[.pointer p, .int .i64 pr, .int .u32 nt] w fun e w' => e = .returned (.int .i64 (sumR buy os pr nt)) ∧ Below w.heap.size w w' := by
  have hz := zero_or
  have HA := Lib.hid A
  have HBT := Lib.hid BT
  have HF := Lib.hid hF
  have SR := Lib.hid srt
  have HOK := Lib.hid hok
  have HLE := Lib.hid hle
  have HLN := Lib.hid hlen
  clear A BT hF srt hok hle hlen
  refine calls_marks Try.func64 rfl ?_
  simp only [Try.ntmps64, List.size_toArray, List.length_cons, List.length_nil, Nat.reduceAdd, Nat.reduceSub, Array.replicate_succ, Array.replicate_zero, List.push_toArray, List.append_toArray, List.nil_append, List.cons_append]
  go_wp2_with fail
  obtain ⟨W4, hW4, b4, e0, e1, e2, e3⟩ := four_bx w p pr nt
  rw [hW4]
  have B4 := Lib.hid b4
  have E0 := Lib.hid e0
  have E1 := Lib.hid e1
  have E2 := Lib.hid e2
  have E3 := Lib.hid e3
  clear hW4 b4 e0 e1 e2 e3
  refine (HA.out W4 B4.out).mono ?_; rintro e W1 ⟨gf, lb, T, rfl, q1, en, hT, tell⟩
  have TL := Lib.hid tell
  have EN := Lib.hid en
  have Q1 := Lib.hid q1
  have HT := Lib.hid hT
  have L3 : Hid (w.heap.size + 1 + 1 + 1 < W4.heap.size) := Lib.hid (Array.getElem?_eq_some_iff.1 E3.out).1
  clear q1 en hT tell
  go_wp2_with fail
  refine (wpIn_wide (n := 9)).1 ?_
  have hl3 := L3.out
  have hq1 := Q1.out.size
  refine range_calm (S := fun _ k => k = w.heap.size + 1 + 1 + 1) (by decide) rfl EN.out (Still.const _ _) (TL.out W1 (fun _ k => k = w.heap.size + 1 + 1 + 1) 8 (Fr.refl _ _) (Still.const _ _) (fun k hk => by omega) (fun k hk c => by
      have := (HT.out k hk).2
      rcases this with h | h
      · have := HF.out k h; omega
      · omega) (by decide)) (fun _ => rfl)
    (fun pre W => ∃ s, (valsO pre <+: os → s = sumR buy (valsO pre) pr nt) ∧ Ir W1 (w.heap.size + 1 + 1 + 1) s W)
    (fun c pre W => c = .exit 0 ∧ ∃ s, (valsO pre <+: os → s = sumR buy os pr nt) ∧ Ir W1 (w.heap.size + 1 + 1 + 1) s W)
    (fun s A C ⟨z, hz, hj⟩ b _ => ⟨z, hz, hj.below b (by omega)⟩)
    (fun c s A C ⟨hc, z, hz, hj⟩ b _ => ⟨hc, z, hz, hj.below b (by omega)⟩)
    ⟨0, fun _ => rfl, ⟨fun _ _ => rfl, (Q1.out.block _ hl3).trans E3.out, Nat.le_refl _, Below.refl _ _⟩⟩
    (fun x a' W => ∃ bx, W1.heap.size ≤ bx ∧ EO.Bx 31 W bx x.1 ∧ a' = { tmps := #[.pointer p, .int .i64 pr, .int .u32 nt, .pointer (some ⟨w.heap.size, 0, none⟩), .pointer (some ⟨w.heap.size + 1, 0, none⟩), .pointer (some ⟨w.heap.size + 1 + 1, 0, none⟩), .int .i64 0, .pointer (some ⟨w.heap.size + 1 + 1 + 1, 0, none⟩), .pointer (some ⟨bx, 0, none⟩), .pointer p, .func (.func gf) #[] lb, .agg (EO.cells x.1).toArray, undef, undef, undef, undef, undef, undef, undef, undef, undef, undef, undef, undef, undef, undef], defers := [] })
    (fun x a' W l o o' hx hl ho hc => by
      obtain ⟨bx, h1, h2, h3⟩ := hx
      refine ⟨bx, h1, ?_, h3⟩
      show (W.putObj l o').heap[bx]? = _
      rw [World.putObj_heap_other (fun e => ?_)]
      · exact h2
      · subst e
        rw [show W.heap[bx]? = _ from h2] at ho
        cases ho
        cases hc) ?assign ?body ?done ?stop
  case assign =>
    rintro l pre x W KK ⟨z, h1, h2⟩ hK
    have HZ := Lib.hid (gbx_new (E := EO) (te := 31) W zeroOr)
    refine region_in rfl (fun ⟨_, _, h⟩ => h) ?_
    go_wp2_with (refine gwl_store TO x.1 W.heap.size HZ.out rfl rfl ?_)
    have q : Below W.heap.size W ((W.alloc (.cells (EO.cells zeroOr).toArray 31)).setRow W.heap.size (EO.cells x.1).toArray) := row_inO (Nat.le_refl _) (below_new W _)
    have hs := h2.sz
    refine hK _ _ ⟨q.size, fun k o _ hk _ => (q.block k (Array.getElem?_eq_some_iff.1 hk).1).trans hk⟩ (Kc.below (Still.const _ _) (Nat.le_refl _) q) ⟨z, h1, h2.grow q (by omega)⟩ ⟨W.heap.size, h2.sz, gbx_set HZ.out, rfl⟩
  case body =>
    rintro l pre x a' W - - ⟨z, h1, h2⟩ ⟨bx, hb, hbx, rfl⟩ hlen
    have H1 := Lib.hid h1
    have H2 := Lib.hid h2
    have X3 := gbx_cell hbx 3
    have X1 := gbx_cell hbx 1
    have X4 := gbx_cell hbx 4
    have x3 : W.cell? ⟨bx, 3, none⟩ = some (.int .i64 x.1.pr) := X3
    have x1 : W.cell? ⟨bx, 1, none⟩ = some (.int .u32 x.1.ac) := X1
    have x4 : W.cell? ⟨bx, 4, none⟩ = some (.int .i64 x.1.le) := X4
    have y0 : W.cell? ⟨w.heap.size, 0, none⟩ = some (.pointer p) := by rw [cell_of_row _ _ _ _ _ _ ((h2.at' _ (by omega)).trans ((Q1.out.block _ (by omega)).trans E0.out))]; rfl
    have y1 : W.cell? ⟨w.heap.size + 1, 0, none⟩ = some (.int .i64 pr) := by rw [cell_of_row _ _ _ _ _ _ ((h2.at' _ (by omega)).trans ((Q1.out.block _ (by omega)).trans E1.out))]; rfl
    have y2 : W.cell? ⟨w.heap.size + 1 + 1, 0, none⟩ = some (.int .u32 nt) := by rw [cell_of_row _ _ _ _ _ _ ((h2.at' _ (by omega)).trans ((Q1.out.block _ (by omega)).trans E2.out))]; rfl
    have y3 : W.cell? ⟨w.heap.size + 1 + 1 + 1, 0, none⟩ = some (.int .i64 z) := by rw [cell_of_row _ _ _ _ _ _ h2.sm]; rfl
    have f3 : W.frozen? ⟨w.heap.size + 1 + 1 + 1, 0, none⟩ = false := by have := h2.sm; simp [World.frozen?, this]
    have BX := HBT.out W x.1.pr (fun k hk => (h2.at' k (by omega)).trans ((Q1.out.block k (by omega)).trans (B4.out.block k hk))) (by omega)
    have HX := Lib.hid x.2
    have NX : ∀ u : Nat, valsO (pre ++ [x]) <+: os → valsO pre <+: os ∧ os[pre.length]? = some x.1 := fun _ h => by
      rw [valsO_snoc] at h
      refine ⟨(List.prefix_append _ _).trans h, ?_⟩
      obtain ⟨r, hr⟩ := h
      rw [← hr, List.append_assoc, ← valsO_len, List.getElem?_append_right (Nat.le_refl _)]
      simp
    have NXT := Lib.hid (NX 0)
    clear h1 h2 hbx X1 X3 X4 NX
    refine wpIn_block ?_
    apply wpIn_seq_k; intro KB hKB
    apply wpIn_seq_k; intro KA hKA
    cases hbt : btr buy pr x.1.pr
    · rw [hbt] at BX
      have HB := Lib.hid hbt
      clear hbt
      refine region_in rfl (fun ⟨_, _, h⟩ => h) ?_
      go_wp2_with fail
      refine BX.mono ?_; rintro e W2 ⟨rfl, rfl⟩
      go_wp2_with fail
      refine wpIn_cond_false rfl ?_
      apply wpIn_skip
      refine hKB _ _ ?_
      apply wpIn_seq_k; intro KC hKC
      cases ha : (x.1.ac != nt)
      · have HAC := Lib.hid ha
        refine region_in rfl (fun ⟨_, _, h⟩ => h) ?_
        go_wp2_with fail
        refine wpIn_cond_false rfl ?_
        apply wpIn_skip
        refine ⟨KeepsFrom.refl _ _, Kc.fr (Fr.refl _ _), z, fun hpre => ?_, H2.out⟩
        obtain ⟨hp1, hx⟩ := NXT.out hpre
        rw [H1.out hp1, valsO_snoc, sumR_app, show sumR buy [x.1] pr nt = oneR buy pr nt x.1 by simp [sumR], one_good HB.out, HAC.out]
        simp
      · have HAC := Lib.hid ha
        refine region_in rfl (fun ⟨_, _, h⟩ => h) ?_
        go_wp2_with fail
        refine wpIn_cond_true rfl ?_
        refine region_in rfl (fun ⟨_, _, h⟩ => h) ?_
        go_wp2_with fail
        refine ⟨(KeepsOthers.setCell W ⟨w.heap.size + 1 + 1 + 1, 0, none⟩ _).from _, Kc.fr (Fr.set (S := fun k => k = w.heap.size + 1 + 1 + 1) (p := ⟨w.heap.size + 1 + 1 + 1, 0, none⟩) rfl _), _, fun hpre => ?_, H2.out.put _⟩
        obtain ⟨hp1, hx⟩ := NXT.out hpre
        have hb1 := sumR_le buy pr nt (valsO pre) (fun y hy => HLE.out y (hp1.subset hy))
        have hb2 := hp1.length_le
        have hb3 := HLE.out x.1 (List.mem_of_getElem? hx)
        have hb4 := HLN.out
        rw [H1.out hp1, valsO_snoc, sumR_app, show sumR buy [x.1] pr nt = oneR buy pr nt x.1 by simp [sumR], one_good HB.out, HAC.out, if_pos rfl]
        unfold wrap64; omega
    · rw [hbt] at BX
      have HB := Lib.hid hbt
      clear hbt
      refine region_in rfl (fun ⟨_, _, h⟩ => h) ?_
      go_wp2_with fail
      refine BX.mono ?_; rintro e W2 ⟨rfl, rfl⟩
      go_wp2_with fail
      refine wpIn_cond_true rfl ?_
      apply wpIn_exit
      refine ⟨KeepsFrom.refl _ _, rfl, z, fun hpre => ?_, H2.out⟩
      obtain ⟨hp1, hx⟩ := NXT.out hpre
      rw [H1.out hp1, sumR_stop SR.out hx HB.out]
      have e := List.prefix_iff_eq_take.1 hp1
      rw [valsO_len] at e
      rw [← e]
  case done =>
    rintro D xs W hD hS ⟨z, h1, h2⟩ hM
    have hz' := h1 (by rw [hS]; exact List.prefix_refl _)
    rw [hS] at hz'
    rw [hz'] at h2
    clear hz'
    have cs : W.cell? ⟨w.heap.size + 1 + 1 + 1, 0, none⟩ = some (.int .i64 (sumR buy os pr nt)) := by rw [cell_of_row _ _ _ _ _ _ h2.sm]; rfl
    have BW : Hid (Below w.heap.size w W) := Lib.hid (fin_reach B4.out Q1.out h2 (by omega))
    have DD : Hid (W1.heap.size ≤ D ∧ W.heap[D]? = some (.deferred (some []))) := Lib.hid ⟨hD, hM⟩
    clear h1 h2 hM hD hS
    go_wp2_with fail
    refine ret_marks [D] rfl (by simp) ?_ (results_tmp rfl _ _ _) ⟨rfl, ?_⟩
    · intro E hE
      simp only [List.mem_cons, List.not_mem_nil, or_false] at hE
      subst hE
      exact DD.out.2
    · refine unmark_below [D] _ _ _ ?_ BW.out.size BW.out
      intro E hE
      simp only [List.mem_cons, List.not_mem_nil, or_false] at hE
      subst hE
      have := DD.out.1
      omega
  case stop =>
    rintro D c pre W hD hS ⟨rfl, z, h1, h2⟩ hM
    rw [h1 hS] at h2
    clear h1
    have cs : W.cell? ⟨w.heap.size + 1 + 1 + 1, 0, none⟩ = some (.int .i64 (sumR buy os pr nt)) := by rw [cell_of_row _ _ _ _ _ _ h2.sm]; rfl
    have BW : Hid (Below w.heap.size w W) := Lib.hid (fin_reach B4.out Q1.out h2 (by omega))
    have DD : Hid (W1.heap.size ≤ D ∧ W.heap[D]? = some (.deferred (some []))) := Lib.hid ⟨hD, hM⟩
    clear h2 hM hD hS
    apply wpIn_exit
    go_wp2_with fail
    refine ret_marks [D] rfl (by simp) ?_ (results_tmp rfl _ _ _) ⟨rfl, ?_⟩
    · intro E hE
      simp only [List.mem_cons, List.not_mem_nil, or_false] at hE
      subst hE
      exact DD.out.2
    · refine unmark_below [D] _ _ _ ?_ BW.out.size BW.out
      intro E hE
      simp only [List.mem_cons, List.not_mem_nil, or_false] at hE
      subst hE
      have := DD.out.1
      omega
end Go.Proofs.Ytdcjgcjnfcahkaa
