/- LedgerZero, walked (by genNz.py). -/
import Derived.Test.YtbmmokgmpgahnaaNq
import Derived.Test.YtbmmokgmpgahnaaNp
import Derived.Test.YtbmmokgmpgahnaaMq
import Derived.Deep.LoopGhost
namespace Go.Proofs.Ytbmmokgmpgahnaa
open Go.RowKit Go.Shelf
set_option linter.unusedVariables false
set_option linter.unusedSimpArgs false
set_option linter.unusedSectionVars false

/-- The ledger of the call's own, and blocks of its loops'. -/
structure Zi (w W : World) (g ba bp : Nat) (L : Lg) (Ds : List Nat) : Prop where
  d : Dl W g ba bp L
  b : Below w.heap.size w W
  n : ∀ k, LdS g ba bp k → w.heap.size ≤ k
  m : ∀ D, D ∈ Ds → w.heap.size ≤ D ∧ W.heap[D]? = some (.deferred (some []))
  nd : Ds.Nodup
section
variable {w W W' : World} {g ba bp : Nat} {L L' : Lg} {Ds : List Nat}
theorem Dl.nodef (h : Dl W g ba bp L) {D : Nat} {x : Option (List Deferred)} (e : W.heap[D]? = some (.deferred x)) : ¬ LdS g ba bp D := by
  rintro (rfl | rfl | rfl)
  · rw [h.blk] at e; cases e
  · obtain ⟨es, ck, hb⟩ := h.ma.blk; rw [hb] at e; cases e
  · obtain ⟨es, ck, hb⟩ := h.mp.blk; rw [hb] at e; cases e
theorem Zi.below (h : Zi w W g ba bp L Ds) (q : Below W.heap.size W W') : Zi w W' g ba bp L Ds :=
  ⟨h.d.below q, h.b.trans (q.mono h.b.size), h.n, fun D hD => ⟨(h.m D hD).1, (q.block D (Array.getElem?_eq_some_iff.1 (h.m D hD).2).1).trans (h.m D hD).2⟩, h.nd⟩
theorem Zi.af (h : Zi w W g ba bp L Ds) (q : AfL W g ba bp L' W') : Zi w W' g ba bp L' Ds :=
  ⟨q.1, below_fr9 h.b q.2 h.n h.b.size, h.n, fun D hD => ⟨(h.m D hD).1, (q.2.at' D (Array.getElem?_eq_some_iff.1 (h.m D hD).2).1 (h.d.nodef (h.m D hD).2)).trans (h.m D hD).2⟩, h.nd⟩
theorem Zi.mark (h : Zi w W g ba bp L Ds) (f : Fr (fun k => W.heap.size ≤ k) W W') {D : Nat} (hD : W.heap.size ≤ D) (e : W'.heap[D]? = some (.deferred (some []))) : Zi w W' g ba bp L (D :: Ds) := by
  have q : Below W.heap.size W W' := ⟨f.b0.os, f.b0.tape, f.b0.output, f.size, fun k hk => f.at' k hk (by omega)⟩
  have h' := h.below q
  refine ⟨h'.d, h'.b, h'.n, fun E hE => ?_, List.nodup_cons.2 ⟨fun c => ?_, h.nd⟩⟩
  · rcases List.mem_cons.1 hE with rfl | hE
    · exact ⟨Nat.le_trans h.b.size hD, e⟩
    · exact h'.m E hE
  · have := (Array.getElem?_eq_some_iff.1 (h.m D c).2).1
    omega
end
theorem obj_cell9 {W : World} {k : Nat} {u : Value} {t : TypeId} (h : W.heap[k]? = some (.cells #[u] t (0, 0))) : W.cell? ⟨k, 0, none⟩ = some u := by rw [cell_of_row _ _ _ _ _ _ h]; rfl
theorem obj_fz9 {W : World} {k : Nat} {cs : Array Value} {t : TypeId} (h : W.heap[k]? = some (.cells cs t (0, 0))) (j : Nat) : W.frozen? ⟨k, j, none⟩ = false := by simp [World.frozen?, h]
theorem eql_seqP9 (gf : Nat) (lb : Array Value) (W : World) : (binOp .eql 61 (.func (.func gf) #[] lb) .nilFunc).run Try.prog W = .ok (.bool false) W := by
  kernel_rfl
/-- Two sums in two cells; all else that lay there stays. -/
structure Iz (W0 : World) (N : Nat) (q b : Int) (W : World) : Prop where
  at' : ∀ k, k < W0.heap.size → k ≠ N → k ≠ N + 1 → W.heap[k]? = W0.heap[k]?
  cq : W.heap[N]? = some (.cells #[.int .i64 q] 2 (0, 0))
  cb : W.heap[N + 1]? = some (.cells #[.int .i64 b] 2 (0, 0))
  sz : W0.heap.size ≤ W.heap.size
  b0 : Below 0 W0 W
section
variable {W0 W W' : World} {N B : Nat} {q b : Int}
theorem Iz.below (h : Iz W0 N q b W) (hN : N + 1 < W0.heap.size) (s : Below B W W') (hB : W0.heap.size ≤ B) : Iz W0 N q b W' :=
  ⟨fun k hk h1 h2 => (s.block k (by omega)).trans (h.at' k hk h1 h2), (s.block N (by omega)).trans h.cq, (s.block _ (by omega)).trans h.cb, Nat.le_trans h.sz s.size, h.b0.trans (s.mono (Nat.zero_le _))⟩
theorem Iz.grow (h : Iz W0 N q b W) (hN : N + 1 < W0.heap.size) (s : Below W.heap.size W W') : Iz W0 N q b W' := h.below hN s h.sz
theorem Iz.put (h : Iz W0 N q b W) (q' b' : Int) : Iz W0 N q' b' ((W.setCell ⟨N, 0, none⟩ (.int .i64 q')).setCell ⟨N + 1, 0, none⟩ (.int .i64 b')) ∧ Fr (fun k => k = N ∨ k = N + 1) W ((W.setCell ⟨N, 0, none⟩ (.int .i64 q')).setCell ⟨N + 1, 0, none⟩ (.int .i64 b')) := by
  have f1 : Fr (fun k => k = N ∨ k = N + 1) W (W.setCell ⟨N, 0, none⟩ (.int .i64 q')) := Fr.set (S := fun k => k = N ∨ k = N + 1) (p := ⟨N, 0, none⟩) (.inl rfl) _
  have f2 : Fr (fun k => k = N ∨ k = N + 1) (W.setCell ⟨N, 0, none⟩ (.int .i64 q')) ((W.setCell ⟨N, 0, none⟩ (.int .i64 q')).setCell ⟨N + 1, 0, none⟩ (.int .i64 b')) := Fr.set (S := fun k => k = N ∨ k = N + 1) (p := ⟨N + 1, 0, none⟩) (.inr rfl) _
  have ff := f1.same f2
  have e1 : (W.setCell ⟨N, 0, none⟩ (.int .i64 q')).heap[N + 1]? = some (.cells #[.int .i64 b] 2 (0, 0)) := (heap_setCell_other W ⟨N, 0, none⟩ (N + 1) _ (by show N + 1 ≠ N; omega)).trans h.cb
  refine ⟨⟨fun k hk h1 h2 => (ff.at' k (Nat.lt_of_lt_of_le hk h.sz) (by omega)).trans (h.at' k hk h1 h2), (heap_setCell_other _ ⟨N + 1, 0, none⟩ N _ (by show N ≠ N + 1; omega)).trans (heap_setCell_same W N 0 _ _ (.int .i64 q') h.cq), heap_setCell_same _ (N + 1) 0 _ _ (.int .i64 b') e1, Nat.le_trans h.sz ff.size, h.b0.trans ff.b0⟩, ff⟩
end
theorem wrap_add9 (a b : Int) : wrap64 (wrap64 a + b) = wrap64 (a + b) := by unfold wrap64; omega
theorem keeps_of9 {B : Nat} {W W' : World} {S : Nat → Prop} (f : Fr S W W') (hS : ∀ k o, S k → W.heap[k]? = some o → o.isCells = true) : KeepsFrom B W W' :=
  ⟨f.size, fun k o _ hk hc => (f.at' k (Array.getElem?_eq_some_iff.1 hk).1 (fun c => by rw [hS k o c hk] at hc; cases hc)).trans hk⟩
theorem intro_u9 {T : Array Value} {D : List Deferred} {F : (Nat → Value) → Array Value} (h : F (fun i => T.getD i undef) = T) : ∃ u : Nat → Value, (Act.mk T D) = Act.mk (F u) D := ⟨_, by rw [h]⟩
theorem wp_mid9 {P : Program} {Q : Exit → Act → World → Prop} {a : Act} {w : World} {x y : Code} (Mid : Act → World → Prop) (h1 : ∀ K : Act → World → Prop, (∀ a w, Mid a w → K a w) → x.wp P (Exit.then K Q) a w) (h2 : ∀ a w, Mid a w → y.wp P Q a w) : (Code.seq x y).wp P Q a w :=
  wp_seq_k fun K hK => h1 K fun a w h => hK a w (h2 a w h)
theorem put_op9 (w : World) (x : OpL) : ∃ V, (w.alloc (.cells (EOp9.cells zeroOp9).toArray 35)).setRow w.heap.size (EOp9.cells x).toArray = V ∧ Below w.heap.size w V ∧ EOp9.Bx 35 V w.heap.size x ∧ EOp9.Bx 35 (w.alloc (.cells (EOp9.cells zeroOp9).toArray 35)) w.heap.size zeroOp9 ∧ V.heap.size = w.heap.size + 1 :=
  ⟨_, rfl, below_row0 (below_new w _) (Nat.le_refl _), gbx_set (gbx_new w zeroOp9), gbx_new w zeroOp9, by
    show (Array.modify _ _ _).size = _
    rw [Array.size_modify]; simp⟩
theorem two_obj9 (w : World) (c d : Array Value) (s t : TypeId) : ∃ W2, (w.alloc (.cells c s)).alloc (.cells d t) = W2 ∧ Below w.heap.size w W2 ∧ W2.heap[w.heap.size]? = some (.cells c s (0, 0)) ∧ W2.heap[w.heap.size + 1]? = some (.cells d t (0, 0)) :=
  ⟨_, rfl, ((Below.refl _ w).alloc (Nat.le_refl _) _).alloc (by simp) _, heap_alloc2_old w _ _, heap_alloc2_new w _ _⟩
theorem marx_len {L : Lg} {c p : Int} (h : LgI L) : (marX L c p).length ≤ 64 := by
  unfold marX
  split
  · rw [List.length_map]; exact holders_len h c
  · exact Nat.zero_le _
theorem meas9 (nv j : Nat) (h : j < nv) : nv - (intOf (.int .i64 ((j : Int) + 1))).toNat < nv - (intOf (.int .i64 (j : Int))).toNat := by
  simp only [intOf]; omega
theorem sum_snoc9 (f : Po → Int) (pre : List Po) (x : Po) : ((pre ++ [x]).map f).sum = (pre.map f).sum + f x := by simp
set_option maxRecDepth 100000 in
set_option maxHeartbeats 4000000 in
theorem zero9_out (A : Option Addr) (n c : Nat) (w : World) (hn : 250 < n) (hm : n ≤ 9223372036854775807) :
    Calls Try.prog 5 #[.slice A n c] w fun e w' => e = .returned (.bool true) ∧ Below w.heap.size w w' := by
  have KN := Lib.hid (fun W => known9_any W)
  have NW := Lib.hid (fun W => lnew9 W)
  have hd : decide (250 < (n : Int)) = true := decide_eq_true (by omega)
  go_enter Try.func5, Try.ntmps5
  go_wp2_with fail
  refine (NW.out w).mono ?_; rintro e w1 ⟨g, ba, bp, rfl, h1, q1, n1⟩
  have Q1 := Lib.hid q1
  clear h1 q1 n1
  go_wp2_with fail
  refine (KN.out w1).mono ?_; rintro e w2 ⟨rfl, q2⟩
  have Q2 := Lib.hid (Q1.out.trans (q2.mono Q1.out.size))
  clear q2
  go_wp2_with fail
  go_ret
  exact ⟨rfl, Q2.out⟩
set_option maxRecDepth 100000 in
set_option maxHeartbeats 16000000 in
theorem zero9_in (A : Option Addr) (n c : Nat) (l : List OpL) (w : World) (hr : EOp9.Rd w A n l) (hok : ∀ x, x ∈ l → x.ok) (hn : n ≤ 250) :
    Calls Try.prog 5 #[.slice A n c] w fun e w' => e = .returned (.bool true) ∧ Below w.heap.size w w' := by
  have KN := Lib.hid (fun W => known9_any W)
  have NW := Lib.hid (fun W => lnew9 W)
  have HR := Lib.hid hr
  have HOK := Lib.hid hok
  have hd250 : decide (250 < (n : Int)) = false := decide_eq_false (by omega)
  have Z := zero_po
  have ZO := zero_op9
  have EQ := eql_seqP9
  clear hr hok
  refine calls_marks Try.func5 rfl ?_
  simp only [Try.ntmps5, List.size_toArray, List.length_cons, List.length_nil, Nat.reduceAdd, Nat.reduceSub, Array.replicate_succ, Array.replicate_zero, List.push_toArray, List.append_toArray, List.nil_append, List.cons_append]
  go_wp2_with fail
  refine (NW.out w).mono ?_; rintro e w1 ⟨g, ba, bp, rfl, h1, q1, n1⟩
  have Z1 : Hid (Zi w w1 g ba bp ⟨0, [], []⟩ []) := Lib.hid ⟨h1, q1, n1, (fun D h => by cases h), List.nodup_nil⟩
  clear h1 q1 n1 NW
  go_wp2_with fail
  refine wp_loop_ghost_k (fun m a' wr => ∃ (k : Nat) (L : Lg) (Ds : List Nat), m = n - k ∧ k ≤ n ∧ Zi w wr g ba bp L Ds ∧ ZerI L.hl ∧ ∃ u : Nat → Value, a' = { tmps := #[.slice A n c, u 1, u 2, .pointer (some ⟨g, 0, none⟩), .int .i64 (fundsL L), u 5, u 6, u 7, u 8, u 9, u 10, u 11, u 12, u 13, u 14, u 15, u 16, u 17, u 18, u 19, u 20, u 21, u 22, u 23, u 24, u 25, u 26, u 27, .int .i64 n, .int .i64 k, u 30, u 31, u 32, u 33, u 34, u 35, u 36, u 37, u 38, u 39, u 40, u 41, u 42, u 43, u 44, u 45, u 46, u 47, u 48, u 49, u 50, u 51, u 52, u 53, u 54, u 55, u 56, u 57, u 58, u 59, u 60, u 61, u 62, u 63, u 64, u 65, u 66, u 67, u 68, u 69, u 70, u 71, u 72, u 73, u 74, u 75, u 76, u 77, u 78, u 79, u 80, u 81, u 82, u 83, u 84, u 85, u 86, u 87, u 88, u 89, u 90, u 91, u 92, u 93, u 94, u 95, u 96, u 97, u 98, u 99, u 100], defers := marks Ds }) n ?atStart ?round
  case atStart => exact ⟨0, ⟨0, [], []⟩, [], rfl, Nat.zero_le _, Z1.out, (fun c => ⟨rfl, rfl⟩), intro_u9 rfl⟩
  case round =>
    rintro m a0 wo ⟨k, L, Ds, hm, hk, hzi, hze, u, rfl⟩ J KK hJ hKK
    have ZI := Lib.hid hzi
    have ZE := Lib.hid hze
    have HJ := Lib.hid hJ
    have HM := Lib.hid hm
    have HKK := Lib.hid hKK
    clear hzi hze hJ hm hKK Z1
    by_cases hlt : k < n
    case neg =>
      obtain rfl : k = n := by omega
      have hd : decide ((k : Int) < k) = false := decide_eq_false (by omega)
      go_wp2_with fail
      refine (KN.out _).mono ?_; rintro e w2 ⟨rfl, q⟩
      have Z2 := Lib.hid (ZI.out.below q)
      clear q
      go_wp2_with fail
      refine ret_marks Ds rfl Z2.out.nd (fun D hD => (Z2.out.m D hD).2) (results_tmp rfl _ _ _) ⟨rfl, ?_⟩
      exact unmark_below Ds _ _ _ (fun E hE => (Z2.out.m E hE).1) Z2.out.b.size Z2.out.b
    case pos =>
      have hd : decide ((k : Int) < n) = true := decide_eq_true (by omega)
      have hki : (k : Int) < (n : Int) := by omega
      obtain ⟨x, hx⟩ : ∃ x, l[k]? = some x := ⟨l[k]'(by have := HR.out.1; omega), List.getElem?_eq_getElem _⟩
      obtain ⟨b, o, rfl, hrg⟩ := grd_rng HR.out hx
      have XO := Lib.hid (HOK.out x (List.mem_of_getElem? hx))
      have RG : Hid (wo.rangeAt b (o + k * 10) (EOp9.cells x)) := Lib.hid (rng_below hrg ZI.out.b (Nat.le_refl _))
      obtain ⟨V, hV, bV, yV, zV, sV⟩ := put_op9 wo x
      have HV := Lib.hid hV
      have ZV := Lib.hid zV
      have YV := Lib.hid yV
      have SV := Lib.hid sV
      have FV := Lib.hid (ZI.out.below bV)
      have LTW : Hid (∀ k, LdS g ba bp k → k < wo.heap.size) := Lib.hid fun k hk => ZI.out.d.lt hk
      have d0 : V.cell? ⟨wo.heap.size, 0, none⟩ = some (.int .i64 x.kd) := gbx_cell yV 0
      clear hx hrg hV bV yV zV sV ZI
      apply wp_seq_k; intro K1 h1; have H1 := Lib.hid h1; clear h1
      go_wp2_with fail
      refine H1.out _ _ ?_
      clear H1
      apply wp_seq_k; intro K2 h2; have H2 := Lib.hid h2; clear h2
      go_wp2_with fail
      refine H2.out _ _ ?_
      clear H2
      apply wp_seq_k; intro K3 h3; have H3 := Lib.hid h3; clear h3
      refine wp_block ?_
      apply wp_seq_k; intro K4 h4; have H4 := Lib.hid h4; clear h4
      go_wp2_with fail
      refine H4.out _ _ ?_
      clear H4
      apply wp_seq_k; intro K5 h5; have H5 := Lib.hid h5; clear h5
      go_wp2_with (first | ((with_reducible refine gwl_load TOp9 b (o + k * 10) RG.out ?_ ?_ ?_); rfl; rfl) | (refine gwl_store TOp9 x wo.heap.size ZV.out rfl rfl ?_; rw [HV.out]))
      refine H5.out _ _ ?_
      clear H5
      refine wp_mid9 (fun a' wr' => Zi w wr' g ba bp L Ds ∧ EOp9.Bx 35 wr' wo.heap.size x ∧ ∃ u : Nat → Value, a' = { tmps := #[.slice (some ⟨b, o, none⟩) n c, u 1, u 2, .pointer (some ⟨g, 0, none⟩), .int .i64 (fundsL L), u 5, .pointer (some ⟨wo.heap.size, 0, none⟩), u 7, u 8, u 9, u 10, u 11, u 12, u 13, u 14, u 15, u 16, u 17, u 18, u 19, u 20, u 21, u 22, u 23, u 24, u 25, u 26, u 27, .int .i64 n, .int .i64 k, u 30, u 31, u 32, u 33, u 34, u 35, u 36, u 37, u 38, u 39, u 40, u 41, u 42, u 43, u 44, u 45, u 46, u 47, u 48, u 49, u 50, u 51, u 52, u 53, u 54, u 55, u 56, u 57, u 58, u 59, u 60, u 61, u 62, u 63, u 64, u 65, u 66, u 67, u 68, u 69, u 70, u 71, u 72, u 73, u 74, u 75, u 76, u 77, u 78, u 79, u 80, u 81, u 82, u 83, u 84, u 85, u 86, u 87, u 88, u 89, u 90, u 91, u 92, u 93, u 94, u 95, u 96, u 97, u 98, u 99, u 100], defers := marks Ds }) ?swX ?tlX
      case swX =>
        intro KM hKM; have HKM := Lib.hid hKM; clear hKM
        cases e6 : (x.kd == 6)
        · go_wp2_with fail
          refine HKM.out _ _ ?_
          exact ⟨FV.out, YV.out, intro_u9 rfl⟩
        · have CC : Hid (∀ U, Fr (fun _ : Nat => False) V U → U.cell? ⟨wo.heap.size, 3, none⟩ = some (.int .u32 x.c) ∧ U.cell? ⟨wo.heap.size, 4, none⟩ = some (.int .i64 x.n)) := Lib.hid fun U f => by
            have h := (f.at' _ (Array.getElem?_eq_some_iff.1 YV.out).1 (fun c => c)).trans YV.out
            exact ⟨gbx_cell h 3, gbx_cell h 4⟩
          have CP := Lib.hid (lcopy9 (FV.out.d.drewN 1))
          go_wp2_with fail
          refine wp_region_held_drew (S := fun U => Fr (fun _ : Nat => False) V U) (by kernel_rfl) ((Fr.refl _ _).drewN 1) (fun hH => ?_)
          refine wpAnyH_take (i := 0) (v := .pointer (some ⟨g, 0, none⟩)) rfl (by kernel_rfl) (by kernel_rfl) (by kernel_rfl) (fun _ _ _ h => h) (.inl ⟨by rfl, ?_⟩) (by assumption) ?_
          · intro W hW; go_simp
          try simp only [List.getElem_toArray, List.getElem_cons_zero, Act.put, List.setIfInBounds_toArray, List.set_cons_zero, List.set_cons_succ]
          refine wpAnyH_take (i := 2) (v := .pointer (some ⟨wo.heap.size, 3, none⟩)) rfl (by kernel_rfl) (by kernel_rfl) (by kernel_rfl) (fun _ _ _ h => h) (.inl ⟨by rfl, ?_⟩) (by assumption) ?_
          · intro W hW; go_simp
          try simp only [List.getElem_toArray, List.getElem_cons_zero, List.getElem_cons_succ, Act.put, List.setIfInBounds_toArray, List.set_cons_zero, List.set_cons_succ]
          refine wpAnyH_take (i := 3) (v := .int .u32 x.c) rfl (by kernel_rfl) (by kernel_rfl) (by kernel_rfl) (fun _ _ _ h => h) (.inl ⟨by rfl, ?_⟩) (by assumption) ?_
          · intro W hW; have kc := (CC.out W hW).1; go_simp
          try simp only [List.getElem_toArray, List.getElem_cons_zero, List.getElem_cons_succ, Act.put, List.setIfInBounds_toArray, List.set_cons_zero, List.set_cons_succ]
          refine wpAnyH_take (i := 4) (v := .pointer (some ⟨wo.heap.size, 4, none⟩)) rfl (by kernel_rfl) (by kernel_rfl) (by kernel_rfl) (fun _ _ _ h => h) (.inl ⟨by rfl, ?_⟩) (by assumption) ?_
          · intro W hW; go_simp
          try simp only [List.getElem_toArray, List.getElem_cons_zero, List.getElem_cons_succ, Act.put, List.setIfInBounds_toArray, List.set_cons_zero, List.set_cons_succ]
          refine wpAnyH_take (i := 5) (v := .int .i64 x.n) rfl (by kernel_rfl) (by kernel_rfl) (by kernel_rfl) (fun _ _ _ h => h) (.inl ⟨by rfl, ?_⟩) (by assumption) ?_
          · intro W hW; have kc := (CC.out W hW).2; go_simp
          try simp only [List.getElem_toArray, List.getElem_cons_zero, List.getElem_cons_succ, Act.put, List.setIfInBounds_toArray, List.set_cons_zero, List.set_cons_succ]
          refine wpAnyH_ready (rs := [1]) (by decide +kernel) (by simp) (AllReadyH.cons rfl (fun KQ hK => ?_) AllReadyH.nil)
          go_simp
          refine (CP.out).mono ?_; rintro e0 W1 ⟨g2, a2, p2, rfl, dl2, q1, n2⟩
          have hH := hH.same (Fr.below q1)
          have MK := Lib.hid (lmark9 x.c x.n false W1 dl2 XO.out.c)
          have N2 := Lib.hid n2
          have HV1 := Lib.hid hH
          refine hK.out _ _ hH (fun _ => ?_)
          clear hK q1 dl2 n2 CP
          try simp only [List.setIfInBounds_toArray, List.set_cons_zero, List.set_cons_succ]
          refine wpAnyH_ready (rs := [6]) (by decide +kernel) (by simp) (AllReadyH.cons rfl (fun KQ hK => ?_) AllReadyH.nil)
          go_simp
          refine MK.out.mono ?_; rintro e0 W2 ⟨vv, rfl, own, af⟩
          have hH := HV1.out.trans (U := fun _ : Nat => False) af.2 (fun _ h => h) (fun k hk h => by have h1 := N2.out k h; exact absurd (Nat.lt_of_lt_of_le hk h1) (Nat.lt_irrefl _))
          have OW := Lib.hid own
          refine hK.out _ _ hH (fun _ => ?_)
          clear hK own af MK
          try simp only [List.setIfInBounds_toArray, List.set_cons_zero, List.set_cons_succ]
          obtain ⟨er, her⟩ : ∃ er, marE x.c x.n = er := ⟨_, rfl⟩
          rw [her]
          clear her
          refine wpAnyH_take (i := 7) (v := .tuple #[vv, .int .i64 er]) rfl (by kernel_rfl) (by kernel_rfl) (by kernel_rfl) (fun _ _ _ h => h) (.inl ⟨by rfl, ?_⟩) (by assumption) ?_
          · intro W hW; go_simp
          try simp only [List.getElem_toArray, List.getElem_cons_zero, List.getElem_cons_succ, Act.put, List.setIfInBounds_toArray, List.set_cons_zero, List.set_cons_succ]
          refine wpAnyH_take (i := 8) (v := vv) rfl (by kernel_rfl) (by kernel_rfl) (by kernel_rfl) (fun _ _ _ h => h) (.inl ⟨by rfl, ?_⟩) (by assumption) ?_
          · intro W hW; go_simp
          try simp only [List.getElem_toArray, List.getElem_cons_zero, List.getElem_cons_succ, Act.put, List.setIfInBounds_toArray, List.set_cons_zero, List.set_cons_succ]
          refine wpAnyH_take (i := 9) (v := .int .i64 er) rfl (by kernel_rfl) (by kernel_rfl) (by kernel_rfl) (fun _ _ _ h => h) (.inl ⟨by rfl, ?_⟩) (by assumption) ?_
          · intro W hW; go_simp
          try simp only [List.getElem_toArray, List.getElem_cons_zero, List.getElem_cons_succ, Act.put, List.setIfInBounds_toArray, List.set_cons_zero, List.set_cons_succ]
          refine wpAnyH_take (i := 10) (v := vv) rfl (by kernel_rfl) (by kernel_rfl) (by kernel_rfl) (fun _ _ _ h => h) (.inl ⟨by rfl, ?_⟩) (by assumption) ?_
          · intro W hW; go_simp
          try simp only [List.getElem_toArray, List.getElem_cons_zero, List.getElem_cons_succ, Act.put, List.setIfInBounds_toArray, List.set_cons_zero, List.set_cons_succ]
          refine wpAnyH_take (i := 11) (v := .int .i64 er) rfl (by kernel_rfl) (by kernel_rfl) (by kernel_rfl) (fun _ _ _ h => h) (.inl ⟨by rfl, ?_⟩) (by assumption) ?_
          · intro W hW; go_simp
          try simp only [List.getElem_toArray, List.getElem_cons_zero, List.getElem_cons_succ, Act.put, List.setIfInBounds_toArray, List.set_cons_zero, List.set_cons_succ]
          refine wpAnyH_done (by decide +kernel) ?_ _
          have ZI2 := Lib.hid (FV.out.below hH.out)
          have YB2 : Hid (EOp9.Bx 35 W2 wo.heap.size x) := Lib.hid ((hH.at' _ (Array.getElem?_eq_some_iff.1 YV.out).1 (fun c => c)).trans YV.out)
          have SUM := Lib.hid (marx_zero (c := x.c) (p := x.n) ZE.out)
          have LEN := Lib.hid (marx_len (c := x.c) (p := x.n) ZI2.out.d.inv)
          obtain ⟨vs, hvs⟩ : ∃ vs, marX L x.c x.n = vs := ⟨_, rfl⟩
          rw [hvs] at OW SUM LEN
          obtain ⟨A2, c2, rfl, _⟩ := gown_form OW.out
          obtain ⟨nv, hnv⟩ : ∃ nv, vs.length = nv := ⟨_, rfl⟩
          rw [hnv] at OW LEN ⊢
          have HNV := Lib.hid hnv
          clear hvs hnv HV1 N2 CC RG HV ZV YV FV d0 hH
          go_wp2_with fail
          go_loopw [9, 51] (fun sv iv wi => ∃ j : Nat, j ≤ nv ∧ iv = .int .i64 j ∧ sv = .int .i64 (wrap64 ((vs.take j).map Va.v).sum) ∧ Fr (fun _ : Nat => False) W2 wi) (fun _ iv _ => nv - (intOf iv).toNat)
          case atStart => exact ⟨0, Nat.zero_le _, rfl, (by show _ = Value.int .i64 (wrap64 0); rw [show wrap64 0 = 0 from by unfold wrap64; omega]), Fr.refl _ _⟩
          case round =>
            obtain ⟨j, hj, rfl, rfl, hf⟩ := hrel
            have F1 := Lib.hid hf
            clear hf
            by_cases hjn : j < nv
            case neg =>
              obtain rfl : j = nv := by omega
              have et : vs.take j = vs := List.take_of_length_le (by rw [HNV.out]; exact Nat.le_refl _)
              rw [et, SUM.out]
              have w0 : wrap64 0 = 0 := by unfold wrap64; omega
              have hdj : decide ((j : Int) < (j : Int)) = false := decide_eq_false (by omega)
              go_wp2_with fail
              refine HKM.out _ _ ?_
              exact ⟨ZI2.out.below F1.out.out, (F1.out.at' _ (Array.getElem?_eq_some_iff.1 YB2.out).1 (fun c => c)).trans YB2.out, intro_u9 rfl⟩
            case pos =>
              have hdj : decide ((j : Int) < (nv : Int)) = true := decide_eq_true (by omega)
              have hjm : (j : Int) < (nv : Int) := by omega
              obtain ⟨t, ht⟩ : ∃ t, vs[j]? = some t := ⟨vs[j]'(by have := HNV.out; omega), List.getElem?_eq_getElem _⟩
              obtain ⟨bv, cv, ev⟩ := gown_slot OW.out (by have := HNV.out; omega)
              injection ev with eA _ ec
              subst eA ec
              have kv : wr.cell? ⟨bv, j * 2 + 1, none⟩ = some (.int .i64 t.v) := cell_fr (gown_at (n := vs.length) (by rw [HNV.out]; exact OW.out) ht (i := 1) (by decide)) F1.out (fun c => c)
              have wj : wrap64 ((j : Int) + 1) = (j : Int) + 1 := by have := LEN.out; unfold wrap64; omega
              have es : vs.take (j + 1) = vs.take j ++ [t] := by rw [List.take_add_one, ht]; rfl
              have hwv : wrap64 (wrap64 ((vs.take j).map Va.v).sum + t.v) = wrap64 ((vs.take (j + 1)).map Va.v).sum := by rw [wrap_add9, es]; simp
              obtain ⟨s0, hs0⟩ : ∃ s0, wrap64 ((vs.take j).map Va.v).sum = s0 := ⟨_, rfl⟩
              rw [hs0] at hwv ⊢
              clear hs0 ht
              go_wp2_with fail
              go_roundw
              case rel => exact ⟨j + 1, by omega, by go_num, by rw [hwv], F1.out⟩
              case measure => rw [wj]; exact meas9 _ _ hjn
      case tlX =>
        rintro a1 wr1 ⟨hz1, hb1, u', rfl⟩
        have ZI1 := Lib.hid hz1
        have BX := Lib.hid (gbx_rng hb1)
        have HB1 := Lib.hid hb1
        have PLAY := Lib.hid (play9 hz1.d XO.out)
        have FP := funds_play (y := x) hz1.d.inv
        have ZP := Lib.hid (zer_play (y := x) hz1.d.inv ZE.out)
        have FBN := Lib.hid (fun W (h : Dl W g ba bp (playL L x)) => funds_bound h.inv)
        obtain ⟨L2, hL2⟩ : ∃ L2, playL L x = L2 := ⟨_, rfl⟩
        obtain ⟨pn, hpn⟩ : ∃ pn, playN L x = pn := ⟨_, rfl⟩
        rw [hL2] at PLAY FP ZP FBN
        rw [hpn] at PLAY FP
        have FPH := Lib.hid FP
        clear hz1 hb1 hL2 hpn FP FV YV HV ZV RG d0
        apply wp_seq_k; intro K7 h7; have H7 := Lib.hid h7; clear h7
        go_wp2_with ((with_reducible refine gwl_load TOp9 wo.heap.size 0 BX.out ?_ ?_ ?_); rfl; rfl)
        refine PLAY.out.mono ?_; rintro e wr2 ⟨rfl, af⟩
        have ZI2 := Lib.hid (ZI1.out.af af)
        have YB : Hid (EOp9.Bx 35 wr2 wo.heap.size x) := Lib.hid ((af.2.at' _ (Array.getElem?_eq_some_iff.1 HB1.out).1 (fun c => Nat.lt_irrefl _ (LTW.out _ c))).trans HB1.out)
        have hw : wrap64 (fundsL L + pn) = fundsL L2 := by
          have h1 := FBN.out _ ZI2.out.d
          simp only [mF] at h1
          have h2 := FPH.out
          unfold wrap64; omega
        clear af PLAY BX HB1 ZI1
        go_wp2_with fail
        rw [hw]
        refine H7.out _ _ ?_
        clear H7 hw FPH
        obtain ⟨W3, hW3, b3, e3, e4⟩ := two_obj9 wr2 #[.int .i64 0] #[.int .i64 0] 2 2
        have s3 : W3.heap.size = wr2.heap.size + 2 := by rw [← hW3]; simp
        have HW3 := Lib.hid hW3
        have E3 := Lib.hid e3
        have E4 := Lib.hid e4
        have B3 := Lib.hid b3
        have S3 := Lib.hid s3
        have ZI3 := Lib.hid (ZI2.out.below b3)
        have k3 : W3.cell? ⟨wo.heap.size, 3, none⟩ = some (.int .u32 x.c) := gbx_cell (show EOp9.Bx 35 W3 wo.heap.size x from (b3.block _ (Array.getElem?_eq_some_iff.1 YB.out).1).trans YB.out) 3
        have k3' := hW3.symm ▸ k3
        have HO := Lib.hid (lholders9 (c := x.c) ZI3.out.d XO.out.c)
        clear hW3 e3 e4 b3 s3
        go_wp2_with fail
        rw [HW3.out]
        refine HO.out.mono ?_; rintro e W4 ⟨gf1, lb1, T1, rfl, q4, -, -, -⟩
        have Q4 := Lib.hid q4
        have ZI4 := Lib.hid (ZI3.out.below q4)
        have k4 : W4.cell? ⟨wo.heap.size, 3, none⟩ = some (.int .u32 x.c) := cell_below k3 q4 (Nat.le_refl _)
        have HO2 := Lib.hid (lholders9 (c := x.c) ZI4.out.d XO.out.c)
        clear q4 HO
        go_wp2_with fail
        refine HO2.out.mono ?_; rintro e W5 ⟨gf, lb, T, rfl, q5, en, hT, tell⟩
        have B5 : Hid (Below W3.heap.size W3 W5) := Lib.hid (Q4.out.trans (q5.mono Q4.out.size))
        have ZI5 := Lib.hid (ZI4.out.below q5)
        have TL := Lib.hid tell
        have EN := Lib.hid en
        have HT := Lib.hid hT
        have S4 : Hid (W3.heap.size ≤ W4.heap.size) := Lib.hid Q4.out.size
        clear q5 en hT tell Q4 HO2 k3 k4
        go_wp2_with fail
        refine (wpIn_wide (n := 9)).1 ?_
        have hs3 := S3.out
        have hs5 := B5.out.size
        have hs4 := S4.out
        have hyl : wo.heap.size < wr2.heap.size := (Array.getElem?_eq_some_iff.1 YB.out).1
        have C5 : Hid (W5.heap[wr2.heap.size]? = some (.cells #[.int .i64 0] 2 (0, 0)) ∧ W5.heap[wr2.heap.size + 1]? = some (.cells #[.int .i64 0] 2 (0, 0))) := Lib.hid ⟨(B5.out.block _ (by omega)).trans E3.out, (B5.out.block _ (by omega)).trans E4.out⟩
        have w00 : wrap64 0 = 0 := by unfold wrap64; omega
        have B25 : Hid (Below wr2.heap.size wr2 W5) := Lib.hid (B3.out.trans (B5.out.mono B3.out.size))
        refine range_calmN (S := fun _ k => k = wr2.heap.size ∨ k = wr2.heap.size + 1) (N0 := W5.heap.size) (Sd := fun xs => xs = holdersH L2.hl x.c) (Sp := fun pre => pre <+: holdersH L2.hl x.c) (Pr := fun xs => xs <+: holdersH L2.hl x.c) (encs := encP) (by decide) rfl EN.out (Still.const _ _) (Nat.le_refl _)
          (TL.out W5 (fun _ k => k = wr2.heap.size ∨ k = wr2.heap.size + 1) 8 W5.heap.size (Fr.refl _ _) (Still.const _ _) (Nat.le_refl _) (fun k hk => .inl (HT.out k hk).1) (fun k hk => by rcases hk with rfl | rfl <;> omega) (fun k hk c => by
            rcases (HT.out k hk).2 with h | h
            · have := LTW.out k h; rcases c with rfl | rfl <;> omega
            · rcases c with rfl | rfl <;> omega) (by decide)) (fun _ => rfl)
          (fun pre W => Iz W5 wr2.heap.size (wrap64 (pre.map Po.q).sum) (wrap64 (pre.map Po.b).sum) W)
          (fun _ _ _ => False)
          (fun s A C hj b _ => hj.below (by omega) b (Nat.le_refl _))
          (fun _ s A C hj _ _ => hj)
          (by show Iz W5 wr2.heap.size (wrap64 0) (wrap64 0) W5; rw [w00]; exact ⟨fun _ _ _ _ => rfl, C5.out.1, C5.out.2, Nat.le_refl _, Below.refl _ _⟩)
          (fun y a' W => ∃ bx, W5.heap.size ≤ bx ∧ EP.Bx 47 W bx y ∧ ∃ u : Nat → Value, a' = { tmps := #[.slice (some ⟨b, o, none⟩) n c, u 1, u 2, .pointer (some ⟨g, 0, none⟩), .int .i64 (fundsL L2), u 5, .pointer (some ⟨wo.heap.size, 0, none⟩), u 7, u 8, u 9, u 10, .pointer (some ⟨wr2.heap.size, 0, none⟩), .pointer (some ⟨wr2.heap.size + 1, 0, none⟩), .pointer (some ⟨bx, 0, none⟩), u 14, u 15, u 16, u 17, u 18, u 19, u 20, u 21, u 22, u 23, u 24, u 25, u 26, u 27, .int .i64 n, .int .i64 k, u 30, u 31, u 32, u 33, u 34, u 35, u 36, u 37, u 38, u 39, u 40, u 41, u 42, u 43, u 44, u 45, u 46, u 47, u 48, u 49, u 50, u 51, u 52, u 53, u 54, u 55, u 56, u 57, u 58, u 59, u 60, u 61, u 62, u 63, u 64, u 65, u 66, u 67, u 68, u 69, u 70, u 71, u 72, u 73, u 74, u 75, u 76, u 77, u 78, u 79, u 80, u 81, u 82, u 83, u 84, u 85, u 86, u 87, u 88, u 89, u 90, u 91, u 92, u 93, u 94, u 95, u 96, u 97, u 98, u 99, u 100], defers := [] })
          (fun y a' W l o o' hx hl ho hc => by
            obtain ⟨bx, h1, h2, h3⟩ := hx
            refine ⟨bx, h1, ?_, h3⟩
            show (W.putObj l o').heap[bx]? = _
            rw [World.putObj_heap_other (fun e => ?_)]
            · exact h2
            · subst e
              rw [show W.heap[bx]? = _ from h2] at ho
              cases ho
              cases hc) ?assign ?body ?done ?stop
        case assign =>
          rintro l pre y W KK h2 _ hK
          have HZ := Lib.hid (gbx_new (E := EP) (te := 47) W zeroPo)
          refine region_in rfl (fun ⟨_, _, h⟩ => h) ?_
          go_wp2_with (refine gwl_store TP y W.heap.size HZ.out rfl rfl ?_)
          have q : Below W.heap.size W ((W.alloc (.cells (EP.cells zeroPo).toArray 47)).setRow W.heap.size (EP.cells y).toArray) := below_row0 (below_new W _) (Nat.le_refl _)
          refine hK _ _ ⟨q.size, fun k o _ hk _ => (q.block k (Array.getElem?_eq_some_iff.1 hk).1).trans hk⟩ (Kn.below (Still.const _ _) (Nat.le_refl _) q) (h2.grow (by omega) q) ⟨W.heap.size, h2.sz, gbx_set HZ.out, intro_u9 rfl⟩
        case stop =>
          rintro D c pre W hD hS hx hK
          exact hx.elim
        case done =>
          rintro D ys W hD hS h2 hK
          subst hS
          obtain ⟨q1, q2⟩ := hold_sums x.c L2.hl
          rw [(ZP.out x.c).1] at q1
          rw [(ZP.out x.c).2] at q2
          rw [q1, q2, w00] at h2
          have H2 := Lib.hid h2
          have FZ := Lib.hid (ZI2.out.mark (W' := W) ⟨(B25.out.mono (Nat.zero_le _)).trans h2.b0, fun j hj hn => by
            have hj' : j < wr2.heap.size := Nat.lt_of_not_le hn
            exact (h2.at' j (by omega) (by omega) (by omega)).trans (B25.out.block j hj')⟩ (D := D) (by omega) hK)
          have y1 : W.cell? ⟨wr2.heap.size, 0, none⟩ = some (.int .i64 0) := obj_cell9 h2.cq
          have y2 : W.cell? ⟨wr2.heap.size + 1, 0, none⟩ = some (.int .i64 0) := obj_cell9 h2.cb
          have FU := Lib.hid (lfunds9 W FZ.out.d)
          clear h2 hK q1 q2 TL HT EN C5
          go_wp2_with fail
          refine FU.out.mono ?_; rintro e W6 ⟨rfl, q6⟩
          have FY := Lib.hid (FZ.out.below q6)
          clear q6 FU
          have wk : wrap64 ((k : Int) + 1) = (k : Int) + 1 := by unfold wrap64; omega
          go_wp2_with fail
          refine H3.out _ _ ?_
          go_wp2_with fail
          try rw [wk]
          refine HKK.out _ _ (Handed.intro (m - 1) (by have := HM.out; omega) (HJ.out _ _ _ ?_))
          exact ⟨k + 1, L2, D :: Ds, by have := HM.out; omega, by omega, FY.out, ZP.out, intro_u9 rfl⟩
        case body =>
          rintro l pre y a' W - - h2 ⟨bx, hb, hbx, u'', rfl⟩ hlen
          have z2 : W.cell? ⟨bx, 2, none⟩ = some (.int .i64 y.q) := gbx_cell hbx 2
          have z3 : W.cell? ⟨bx, 3, none⟩ = some (.int .i64 y.b) := gbx_cell hbx 3
          have hq : wrap64 (wrap64 (pre.map Po.q).sum + y.q) = wrap64 ((pre ++ [y]).map Po.q).sum := by rw [wrap_add9]; simp
          have hbq : wrap64 (wrap64 (pre.map Po.b).sum + y.b) = wrap64 ((pre ++ [y]).map Po.b).sum := by rw [wrap_add9]; simp
          obtain ⟨sq, hsq⟩ : ∃ s, wrap64 (pre.map Po.q).sum = s := ⟨_, rfl⟩
          obtain ⟨sb, hsb⟩ : ∃ s, wrap64 (pre.map Po.b).sum = s := ⟨_, rfl⟩
          rw [hsq, hsb] at h2
          rw [hsq] at hq
          rw [hsb] at hbq
          have HS := Lib.hid (And.intro hq hbq)
          clear hsq hsb hq hbq
          have y1 : W.cell? ⟨wr2.heap.size, 0, none⟩ = some (.int .i64 sq) := obj_cell9 h2.cq
          have y1f : W.frozen? ⟨wr2.heap.size, 0, none⟩ = false := obj_fz9 h2.cq 0
          have PUT := Lib.hid (h2.put (wrap64 (sq + y.q)) (wrap64 (sb + y.b)))
          have e1 : (W.setCell ⟨wr2.heap.size, 0, none⟩ (.int .i64 (wrap64 (sq + y.q)))).heap[wr2.heap.size + 1]? = some (.cells #[.int .i64 sb] 2 (0, 0)) := (heap_setCell_other W ⟨wr2.heap.size, 0, none⟩ (wr2.heap.size + 1) _ (by show wr2.heap.size + 1 ≠ wr2.heap.size; omega)).trans h2.cb
          have y2 : (W.setCell ⟨wr2.heap.size, 0, none⟩ (.int .i64 (wrap64 (sq + y.q)))).cell? ⟨wr2.heap.size + 1, 0, none⟩ = some (.int .i64 sb) := obj_cell9 e1
          have y2f : (W.setCell ⟨wr2.heap.size, 0, none⟩ (.int .i64 (wrap64 (sq + y.q)))).frozen? ⟨wr2.heap.size + 1, 0, none⟩ = false := obj_fz9 e1 0
          have z3' : (W.setCell ⟨wr2.heap.size, 0, none⟩ (.int .i64 (wrap64 (sq + y.q)))).cell? ⟨bx, 3, none⟩ = some (.int .i64 y.b) := by
            rw [← z3]; exact World.cell?_of_block (heap_setCell_other W ⟨wr2.heap.size, 0, none⟩ bx _ (by show bx ≠ wr2.heap.size; omega))
          have FIN : Hid (KeepsFrom W5.heap.size W ((W.setCell ⟨wr2.heap.size, 0, none⟩ (.int .i64 (wrap64 (sq + y.q)))).setCell ⟨wr2.heap.size + 1, 0, none⟩ (.int .i64 (wrap64 (sb + y.b))))) := Lib.hid (keeps_of9 PUT.out.2 (fun j o c ho => by
            rcases c with rfl | rfl
            · rw [h2.cq] at ho; cases ho; rfl
            · rw [h2.cb] at ho; cases ho; rfl))
          clear h2 hbx e1
          refine wpIn_block ?_
          apply wpIn_seq_k; intro KB hKB; have HKB := Lib.hid hKB; clear hKB
          refine region_in rfl (fun ⟨_, _, h⟩ => h) ?_
          go_wp2_with fail
          refine HKB.out _ _ ?_
          refine region_in rfl (fun ⟨_, _, h⟩ => h) ?_
          go_wp2_with fail
          refine ⟨FIN.out, Kn.fr PUT.out.2, ?_⟩
          show Iz W5 wr2.heap.size (wrap64 ((pre ++ [y]).map Po.q).sum) (wrap64 ((pre ++ [y]).map Po.b).sum) _
          rw [← HS.out.1, ← HS.out.2]
          exact PUT.out.1
theorem zero9_all (A : Option Addr) (n c : Nat) (l : List OpL) (w : World) (hr : EOp9.Rd w A n l) (hok : ∀ x, x ∈ l → x.ok) (hm : n ≤ maxLen) :
    Calls Try.prog 5 #[.slice A n c] w fun e w' => e = .returned (.bool true) ∧ Below w.heap.size w w' := by
  unfold maxLen at hm
  rcases Nat.lt_or_ge 250 n with h | h
  · exact zero9_out A n c w h (by omega)
  · exact zero9_in A n c l w hr hok h
end Go.Proofs.Ytbmmokgmpgahnaa
