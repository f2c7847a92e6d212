/- The program's words: a command made of its kind's fields alone (bare). -/
import Derived.Test.YtbmlpokkojhhjaaGreatG23
namespace Go.Proofs.YtbmlpokkojhhjaaGreat.Wz
open Go.RowKit
set_option linter.unusedVariables false
set_option linter.unusedSimpArgs false

theorem callW {i : Nat} (hi : i < 10) (args : Array Value) (w : World) : (callFunc (pcW i) args).run Tryz.prog w = .ok (.enter (pcW i) args) w := by
  match i, hi with
  | 0, _ => show (callFunc (pcW 0) args).run Tryz.prog w = _; unfold pcW; go_simp
  | 1, _ => show (callFunc (pcW 1) args).run Tryz.prog w = _; unfold pcW; go_simp
  | 2, _ => show (callFunc (pcW 2) args).run Tryz.prog w = _; unfold pcW; go_simp
  | 3, _ => show (callFunc (pcW 3) args).run Tryz.prog w = _; unfold pcW; go_simp
  | 4, _ => show (callFunc (pcW 4) args).run Tryz.prog w = _; unfold pcW; go_simp
  | 5, _ => show (callFunc (pcW 5) args).run Tryz.prog w = _; unfold pcW; go_simp
  | 6, _ => show (callFunc (pcW 6) args).run Tryz.prog w = _; unfold pcW; go_simp
  | 7, _ => show (callFunc (pcW 7) args).run Tryz.prog w = _; unfold pcW; go_simp
  | 8, _ => show (callFunc (pcW 8) args).run Tryz.prog w = _; unfold pcW; go_simp
  | 9, _ => show (callFunc (pcW 9) args).run Tryz.prog w = _; unfold pcW; go_simp
theorem callR {i : Nat} (hi : i < 10) (args : Array Value) (w : World) : (callFunc (pcR i) args).run Tryz.prog w = .ok (.enter (pcR i) args) w := by
  match i, hi with
  | 0, _ => show (callFunc (pcR 0) args).run Tryz.prog w = _; unfold pcR; go_simp
  | 1, _ => show (callFunc (pcR 1) args).run Tryz.prog w = _; unfold pcR; go_simp
  | 2, _ => show (callFunc (pcR 2) args).run Tryz.prog w = _; unfold pcR; go_simp
  | 3, _ => show (callFunc (pcR 3) args).run Tryz.prog w = _; unfold pcR; go_simp
  | 4, _ => show (callFunc (pcR 4) args).run Tryz.prog w = _; unfold pcR; go_simp
  | 5, _ => show (callFunc (pcR 5) args).run Tryz.prog w = _; unfold pcR; go_simp
  | 6, _ => show (callFunc (pcR 6) args).run Tryz.prog w = _; unfold pcR; go_simp
  | 7, _ => show (callFunc (pcR 7) args).run Tryz.prog w = _; unfold pcR; go_simp
  | 8, _ => show (callFunc (pcR 8) args).run Tryz.prog w = _; unfold pcR; go_simp
  | 9, _ => show (callFunc (pcR 9) args).run Tryz.prog w = _; unfold pcR; go_simp
theorem callC {i : Nat} (hi : i < 10) (args : Array Value) (w : World) : (callFunc (pcC i) args).run Tryz.prog w = .ok (.enter (pcC i) args) w := by
  match i, hi with
  | 0, _ => show (callFunc (pcC 0) args).run Tryz.prog w = _; unfold pcC; go_simp
  | 1, _ => show (callFunc (pcC 1) args).run Tryz.prog w = _; unfold pcC; go_simp
  | 2, _ => show (callFunc (pcC 2) args).run Tryz.prog w = _; unfold pcC; go_simp
  | 3, _ => show (callFunc (pcC 3) args).run Tryz.prog w = _; unfold pcC; go_simp
  | 4, _ => show (callFunc (pcC 4) args).run Tryz.prog w = _; unfold pcC; go_simp
  | 5, _ => show (callFunc (pcC 5) args).run Tryz.prog w = _; unfold pcC; go_simp
  | 6, _ => show (callFunc (pcC 6) args).run Tryz.prog w = _; unfold pcC; go_simp
  | 7, _ => show (callFunc (pcC 7) args).run Tryz.prog w = _; unfold pcC; go_simp
  | 8, _ => show (callFunc (pcC 8) args).run Tryz.prog w = _; unfold pcC; go_simp
  | 9, _ => show (callFunc (pcC 9) args).run Tryz.prog w = _; unfold pcC; go_simp
/-- The parts of a kind in memory, behind block gc. -/
structure Ps (W : World) (v : Int) (A : Option Addr) (N gc : Nat) : Prop where
  rd : EPa.Rd W A (flds v).length ((flds v).map fun i => ptI i (N + 5 * i))
  bxs : ∀ i, i < 10 → Bxs W (N + 5 * i) (plF i) (puF i) (tkF i)
  gt : gc < N
  blk : ∀ a, A = some a → gc < a.block
  sz : N + 50 ≤ W.heap.size
theorem Ps.of {v : Int} {w w' : World} {e : Ending} {gc : Nat} (h : PartsOk v w e w') (hg : gc < w.heap.size) : ∃ A c, e = .returned (.slice A (flds v).length c) ∧ Ps w' v A w.heap.size gc ∧ Below w.heap.size w w' := by
  obtain ⟨A, c, rfl, h1, h2, h3, h4, h5⟩ := h
  exact ⟨A, c, rfl, ⟨h1, h2, hg, fun a ha => by have := h3 a ha; omega, h5⟩, h4⟩
theorem Ps.keep {W W' : World} {v : Int} {A : Option Addr} {N gc : Nat} (h : Ps W v A N gc) (f : ∀ j, gc < j → j < W.heap.size → W'.heap[j]? = W.heap[j]?) (hs : W.heap.size ≤ W'.heap.size) : Ps W' v A N gc := by
  have hz := h.sz
  have hg := h.gt
  refine ⟨⟨h.rd.1, h.rd.2.1, fun hm a ha => ?_⟩, fun i hi => bx_keep (h.bxs i hi) fun j h1 h2 => f j (by omega) (by omega), h.gt, h.blk, by omega⟩
  obtain ⟨e, r⟩ := h.rd.2.2 hm a ha
  refine ⟨e, fun j u hj => ?_⟩
  have c := r j u hj
  have lt := World.block_lt_of_cell? W _ c
  rw [← c]
  unfold World.cell?
  rw [f a.block (h.blk a ha) lt]
theorem Ps.below {W W' : World} {v : Int} {A : Option Addr} {N gc : Nat} (h : Ps W v A N gc) (q : Below W.heap.size W W') : Ps W' v A N gc := h.keep (fun j _ hj => q.block j hj) q.size
/-- The k-th part. -/
theorem Ps.at' {W : World} {v : Int} {A : Option Addr} {N gc : Nat} (h : Ps W v A N gc) {k i : Nat} (hi : (flds v)[k]? = some i) : ∃ b o, A = some ⟨b, o, none⟩ ∧ W.rangeAt b (o + k * 3) (EPa.cells (ptI i (N + 5 * i))) :=
  grd_rng h.rd (k := k) (x := ptI i (N + 5 * i)) (by rw [List.getElem?_map, hi]; rfl)
/-- A command's fields carried over: so many. -/
structure Br (w : World) (g0 : Nat) (v : Int) (A : Option Addr) (N : Nat) (s : Cm) (k : Nat) (W : World) : Prop where
  p : ECm.Bx 32 W g0 s
  r : ECm.Bx 32 W (g0 + 1) zeroCm
  c : ECm.Bx 32 W (g0 + 2) (bareC s k)
  ps : Ps W v A N (g0 + 2)
  bel : Below g0 w W
theorem Br.below {w W W' : World} {g0 N k : Nat} {v : Int} {A : Option Addr} {s : Cm} (h : Br w g0 v A N s k W) (q : Below W.heap.size W W') : Br w g0 v A N s k W' := by
  have := h.ps.sz
  have := h.ps.gt
  exact ⟨gbx_below h.p q, gbx_below h.r q, gbx_below h.c q, h.ps.below q, h.bel.trans (q.mono (by omega))⟩
theorem Br.next {w W W' : World} {g0 N k i : Nat} {v : Int} {A : Option Addr} {s : Cm} (h : Br w g0 v A N s k W) (hv : s.kd = v) (hi : (flds v)[k]? = some i) (x : ECm.Bx 32 W' (g0 + 2) (cpF s (bareC s k) i)) (q : Below (g0 + 2) W W') (f : ∀ j, g0 + 2 < j → j < W.heap.size → W'.heap[j]? = W.heap[j]?) : Br w g0 v A N s (k + 1) W' := by
  refine ⟨(q.block g0 (by omega)).trans h.p, (q.block (g0 + 1) (by omega)).trans h.r, ?_, h.ps.keep f q.size, h.bel.trans (q.mono (by omega))⟩
  rw [bare_next (hv ▸ hi)]
  exact x
set_option maxRecDepth 100000 in
set_option maxHeartbeats 16000000 in
theorem bare15 (s : Cm) (w : World) (ok : s.ok) : Calls Tryz.prog 68 #[.agg (ECm.cells s).toArray] w fun e w' => e = .returned (.agg (ECm.cells (bareA s)).toArray) ∧ Below w.heap.size w w' := by
  have hzc := zero_cm15
  obtain ⟨g0, hg0⟩ : ∃ g, w.heap.size = g := ⟨_, rfl⟩
  obtain ⟨w2, hw2⟩ : ∃ W, (w.alloc (.cells (ECm.cells s).toArray 32)).alloc (.cells (ECm.cells zeroCm).toArray 32) = W := ⟨_, rfl⟩
  have s2 : w2.heap.size = g0 + 2 := by rw [← hw2, ← hg0]; simp
  have b2 : Below g0 w w2 := by rw [← hw2, ← hg0]; exact (below_new w _).alloc (below_new w _).size _
  have p2 : ECm.Bx 32 w2 g0 s := by rw [← hw2, ← hg0]; exact gbx_below (gbx_new w s) (below_new _ _)
  have r2 : ECm.Bx 32 w2 (g0 + 1) zeroCm := by
    rw [← hw2, ← hg0]
    have := gbx_new (E := ECm) (te := 32) (w.alloc (.cells (ECm.cells s).toArray 32)) zeroCm
    rwa [size_alloc] at this
  have x3 : ECm.Bx 32 (w2.alloc (.cells (ECm.cells zeroCm).toArray 32)) w2.heap.size zeroCm := gbx_new w2 _
  obtain ⟨w3, hw3⟩ : ∃ W, (w2.alloc (.cells (ECm.cells zeroCm).toArray 32)).setRow w2.heap.size (ECm.cells { zeroCm with kd := s.kd }).toArray = W := ⟨_, rfl⟩
  have c3 : ECm.Bx 32 w3 (g0 + 2) (bareC s 0) := by rw [← hw3, ← s2]; exact gbx_set x3
  have q3 : Below w2.heap.size w2 w3 := by rw [← hw3]; exact below_row0 (below_new _ _) (Nat.le_refl _)
  have z3 : w3.heap.size = g0 + 3 := by rw [← hw3]; simp [s2]
  have k0 : w2.cell? ⟨g0, 0, none⟩ = some (.int .u8 s.kd) := (gbx_cell p2 0).trans ((cm_hd s (i := 0) (by omega)).trans rfl)
  have k1 : w3.cell? ⟨g0, 0, none⟩ = some (.int .u8 s.kd) := (gbx_cell (gbx_below p2 q3) 0).trans ((cm_hd s (i := 0) (by omega)).trans rfl)
  have PA := Lib.hid (parts15 s.kd ok.kd w3)
  have ST := Lib.hid fun (W : World) (A : Option Addr) (p : Ps W s.kd A w3.heap.size (g0 + 2)) (q : Below w3.heap.size w3 W) =>
    (show Br w g0 s.kd A w3.heap.size s 0 W from ⟨gbx_below (gbx_below p2 q3) q, gbx_below (gbx_below r2 q3) q, gbx_below c3 q, p, b2.trans ((q3.trans (q.mono (by omega))).mono (by omega))⟩)
  have BK := Lib.hid (Wt.built_kd15 s.kd)
  have X3 := Lib.hid x3
  have HW2 := Lib.hid hw2
  have HG := Lib.hid hg0
  have S2 := Lib.hid s2
  have Z3 := Lib.hid z3
  obtain ⟨N, hN⟩ : ∃ N, w3.heap.size = N := ⟨_, rfl⟩
  rw [hN] at ST
  have HN := Lib.hid hN
  obtain ⟨v, hv⟩ : ∃ v, s.kd = v := ⟨_, rfl⟩
  rw [hv] at k0 k1 PA ST BK hw3
  have HW3 := Lib.hid hw3
  have HV := Lib.hid hv
  have HF := Lib.hid (flds_lt v)
  have LL := flds_len v
  clear ok hw2 hw3 s2 b2 p2 r2 x3 c3 q3 z3 hg0 hv hN
  go_enter Tryz.func68, Tryz.ntmps68
  go_wp2_with (first | (rw [HW2.out, HG.out]) | (refine rwl_store TCm { zeroCm with kd := v } w2.heap.size X3.out rfl rfl ?_; rw [HW3.out, S2.out]))
  refine PA.out.mono ?_; rintro e w4 h4
  obtain ⟨A, c, rfl, ps, q4⟩ := Ps.of (gc := g0 + 2) h4 (by rw [Z3.out]; omega)
  rw [HN.out] at ps
  have B0 := Lib.hid (ST.out w4 A ps (HN.out ▸ q4))
  have HQ : Hid (∀ m : Nat, (flds v).length = m → m ≤ 6) := Lib.hid fun m e => by omega
  obtain ⟨m, hm⟩ : ∃ m, (flds v).length = m := ⟨_, rfl⟩
  have HM := Lib.hid hm
  rw [hm]
  clear ps q4 h4 ST PA X3 HW2 HW3 hzc k0 k1 hm LL
  go_wp2_with fail
  go_loopw [5, 13] (fun _ i wr => ∃ k : Nat, k ≤ m ∧ i = .int .i64 k ∧ Br w g0 v A N s k wr) (fun _ i _ => m - (intOf i).toNat)
  case atStart => exact ⟨0, Nat.zero_le _, rfl, B0.out⟩
  case round =>
    obtain ⟨k, hk, rfl, hb⟩ := hrel
    have D := Lib.hid hb
    clear hb
    have m6 := HQ.out m HM.out
    by_cases hlt : k < m
    case neg =>
      obtain rfl : k = m := by omega
      have hd : decide ((k : Int) < (k : Int)) = false := decide_eq_false (by omega)
      clear hlt
      go_wp2_with (first | ((with_reducible refine rwl_load TCm (g0 + 2) 0 (gbx_rng D.out.c) ?_ ?_ ?_); rfl; rfl) | (refine rwl_store TCm (bareC s k) (g0 + 1) D.out.r rfl rfl ?_))
      have e : bareA s = bareC s k := by unfold bareA; rw [HV.out, HM.out]
      refine bodyPost_ret (rret1 TCm rfl _ _ (g0 + 1) rfl (gbx_set D.out.r)) rfl ⟨?_, ?_⟩
      · rw [e]
      · rw [HG.out]; exact below_row0 D.out.bel (by omega)
    case pos =>
      have hd : decide ((k : Int) < (m : Int)) = true := decide_eq_true (by omega)
      have hki : (k : Int) < (m : Int) := by omega
      obtain ⟨i, hi⟩ : ∃ i, (flds v)[k]? = some i := ⟨(flds v)[k]'(by rw [HM.out]; exact hlt), List.getElem?_eq_getElem _⟩
      have HI := Lib.hid hi
      have h10 := HF.out i (List.mem_of_getElem? hi)
      obtain ⟨b, o, rfl, rg⟩ := D.out.ps.at' hi
      have RG := Lib.hid rg
      have Z5 : Hid (EPa.Bx 57 (wr.alloc (.cells #[.nilFunc, .nilFunc, .nilFunc] 57)) wr.heap.size none) := Lib.hid (gbx_new wr none)
      obtain ⟨w5, hw5⟩ : ∃ W, (wr.alloc (.cells #[.nilFunc, .nilFunc, .nilFunc] 57)).setRow wr.heap.size (EPa.cells (ptI i (N + 5 * i))).toArray = W := ⟨_, rfl⟩
      obtain ⟨g5, hg5⟩ : ∃ g, wr.heap.size = g := ⟨_, rfl⟩
      have x5 : EPa.Bx 57 w5 g5 (ptI i (N + 5 * i)) := by rw [← hw5, ← hg5]; exact gbx_set Z5.out
      have q5 : Below wr.heap.size wr w5 := by rw [← hw5]; exact below_row0 (below_new _ _) (Nat.le_refl _)
      have D5 := Lib.hid (D.out.below q5)
      have k5 : w5.cell? ⟨g5, 2, none⟩ = some (.func (.func (pcC i)) #[] #[.pointer (some ⟨N + 5 * i, 0, none⟩)]) := (gbx_cell x5 2).trans rfl
      have C := Lib.hid (caI h10 s (bareC s k) D5.out.c (D5.out.ps.bxs i h10) (by have := D5.out.ps.gt; omega) (by have := D5.out.ps.sz; omega))
      unfold bx at C
      have P5 := Lib.hid (gbx_rng D5.out.p)
      have eg := callC h10
      have HW5 := Lib.hid hw5
      have HG5 := Lib.hid hg5
      clear hi rg x5 q5 hw5 hg5
      go_wp2_with (first | ((with_reducible refine rwl_load TPr b (o + k * 3) RG.out ?_ ?_ ?_); rfl; rfl) | ((with_reducible refine rwl_load TCm g0 0 P5.out ?_ ?_ ?_); rfl; rfl) | (refine rwl_store TPr (ptI i (N + 5 * i)) wr.heap.size Z5.out rfl rfl ?_; rw [HW5.out, HG5.out]))
      refine C.out.mono ?_; rintro e w6 ⟨rfl, x, q, f⟩
      have D6 := Lib.hid (D5.out.next HV.out HI.out x q f)
      clear x q f
      go_wp2_with fail
      go_roundw
      case rel => exact ⟨k + 1, hlt, by go_num, D6.out⟩
      case measure => simp [intOf]; omega
end Go.Proofs.YtbmlpokkojhhjaaGreat.Wz
