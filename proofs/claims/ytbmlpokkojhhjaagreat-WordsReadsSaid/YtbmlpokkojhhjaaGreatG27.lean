/- The program's words: a command read. -/
import Derived.Test.YtbmlpokkojhhjaaGreatG25
import Derived.Test.YtbmlpokkojhhjaaGreatG26
namespace Go.Proofs.YtbmlpokkojhhjaaGreat.Wz
open Go.RowKit
set_option linter.unusedVariables false
set_option linter.unusedSimpArgs false

/-- A command being read, with what was read so far, the parts, the result's cell. -/
structure Rs (B : Nat) (w1 : World) (g0 g gc : Nat) (v : Int) (A : Option Addr) (N : Nat) (bs : List Int) (W : World) (c : Cm) (b : List Int) (e : Int) (k : Nat) : Prop where
  tq : Tq B w1 g gc W c b e
  pc : Wt.PC bs c b e k
  bk : BK bs c b e k
  kd : c.kd = v
  ps : Ps W v A N gc
  res : ECm.Bx 32 W g0 zeroCm
theorem Rs.below {B : Nat} {w1 W W' : World} {g0 g gc N k : Nat} {v : Int} {A : Option Addr} {bs b : List Int} {c : Cm} {e : Int} (h : Rs B w1 g0 g gc v A N bs W c b e k) (q : Below W.heap.size W W') : Rs B w1 g0 g gc v A N bs W' c b e k :=
  ⟨h.tq.below q, h.pc, h.bk, h.kd, h.ps.below q, gbx_below h.res q⟩
theorem Rs.next {B : Nat} {w1 W W' : World} {g0 g gc N k i : Nat} {v : Int} {A : Option Addr} {bs b : List Int} {c : Cm} {e : Int} (h : Rs B w1 g0 g gc v A N bs W c b e k) (hi : (flds v)[k]? = some i) (h0 : g0 < B) (hw : B ≤ w1.heap.size) (hr : ECm.Bx 32 w1 g0 zeroCm)
    (t : Tq B w1 g gc W' (rdF c b e i).1 (rdF c b e i).2.1 (rdF c b e i).2.2) (sz : W.heap.size ≤ W'.heap.size) (f : ∀ j, gc < j → j < W.heap.size → W'.heap[j]? = W.heap[j]?) :
    Rs B w1 g0 g gc v A N bs W' (rdF c b e i).1 (rdF c b e i).2.1 (rdF c b e i).2.2 (k + 1) := by
  have h10 : i < 10 := flds_lt _ i (List.mem_of_getElem? hi)
  have hi' : (flds c.kd)[k]? = some i := by rw [h.kd]; exact hi
  exact ⟨t, pc_step h.pc i h10 hi', bk_step h.bk hi', (rd_kd c b e i h10).trans h.kd, h.ps.keep f sz, (t.bel.block g0 h0).trans hr⟩
set_option maxRecDepth 100000 in
set_option maxHeartbeats 32000000 in
theorem prdc15 (A0 : Option Addr) (n0 cap : Nat) (bs : List Int) (w : World) (h : RdB w A0 n0 bs) (hy : By bs) (ha : A0 = none → n0 = 0 ∧ cap = 0) (hn : n0 ≤ 100000) : Calls Tryz.prog 5 #[.slice A0 n0 cap] w fun e w' =>
    ∃ (c : Cm) (E : Int), e = .returned (.tuple #[.agg (ECm.cells c).toArray, .int .i64 E]) ∧ (IsC bs c ∧ E = 0 ∨ (∀ d, ¬ IsC bs d) ∧ c = zeroCm ∧ E = 5) ∧ Below w.heap.size w w' := by
  have hzc := zero_cm15
  obtain ⟨g0, hg0⟩ : ∃ g, w.heap.size = g := ⟨_, rfl⟩
  obtain ⟨w1, hw1⟩ : ∃ W, w.alloc (.cells (ECm.cells zeroCm).toArray 32) = W := ⟨_, rfl⟩
  have b1 : Below g0 w w1 := by rw [← hw1, ← hg0]; exact below_new _ _
  have r1 : ECm.Bx 32 w1 g0 zeroCm := by rw [← hw1, ← hg0]; exact gbx_new w _
  have z1 : w1.heap.size = g0 + 1 := by rw [← hw1, ← hg0]; simp
  have NW := Lib.hid (newr_any A0 n0 cap bs w1 (h.below (hg0 ▸ b1)) (by omega) ha)
  have hl : bs.length ≤ 100000 := by rw [h.1]; exact hn
  have HY := Lib.hid hy
  have HL := Lib.hid hl
  have B1 := Lib.hid b1
  have R1 := Lib.hid r1
  have Z1 := Lib.hid z1
  have HW1 := Lib.hid hw1
  have HG := Lib.hid hg0
  clear h ha hw1 b1 r1 z1 hg0 hl hy
  go_enter Tryz.func5, Tryz.ntmps5
  go_wp2_with (rw [HW1.out, HG.out])
  refine NW.out.mono ?_; rintro e w2 ⟨g, A2, n2, c2, rfl, rq, hA, q2, hg⟩
  have TK := Lib.hid (takesk g n2 c2 A2 bs 0 w2 rq HY.out (by have := rq.r.1; have := HL.out; omega))
  have MV := sR_most HY.out 0 (m := 255) (by decide)
  have NB := Lib.hid (sR_by HY.out 0 255)
  obtain ⟨⟨v, b0, e0⟩, hr⟩ : ∃ r, sR bs 0 255 = r := ⟨_, rfl⟩
  rw [hr] at TK MV NB
  dsimp only at TK MV NB
  have PC0 := Lib.hid (pc_start HY.out hr)
  have BK0 := Lib.hid (bk_start HY.out hr)
  have HA := Lib.hid hA
  have HGE := Lib.hid hg
  have Q2 := Lib.hid q2
  have LG := Lib.hid rq.lt
  clear rq hA hg q2 hr NW
  go_wp2_with fail
  refine TK.out.mono ?_; rintro e w3 ⟨rfl, d3⟩
  have b3 : Below w1.heap.size w1 w3 := Q2.out.grown d3.2 Q2.out.size (fun j hj => by cases hj; exact HGE.out)
  have x3 : ECm.Bx 32 (w3.alloc (.cells (ECm.cells zeroCm).toArray 32)) w3.heap.size zeroCm := gbx_new w3 _
  obtain ⟨w4, hw4⟩ : ∃ W, (w3.alloc (.cells (ECm.cells zeroCm).toArray 32)).setRow w3.heap.size (ECm.cells { zeroCm with kd := v }).toArray = W := ⟨_, rfl⟩
  obtain ⟨gc, hgc⟩ : ∃ g, w3.heap.size = g := ⟨_, rfl⟩
  have q4 : Below w3.heap.size w3 w4 := by rw [← hw4]; exact below_row0 (below_new _ _) (Nat.le_refl _)
  have z4 : w4.heap.size = gc + 1 := by rw [← hw4, ← hgc]; simp
  have T4 : Hid (Tq w1.heap.size w1 g gc w4 (kC v) b0 e0) := Lib.hid (by
    obtain ⟨A', n', k', rq, hA'⟩ := d3.1
    have l3 : w2.heap.size ≤ w3.heap.size := d3.2.size
    have lg := LG.out
    refine ⟨⟨A', n', k', rq.below q4, fun a ha => ?_⟩, by rw [← hw4, ← hgc]; exact gbx_set x3, by omega, HGE.out, b3.trans (q4.mono b3.size), NB.out.1, Nat.le_trans NB.out.2 HL.out⟩
    obtain ⟨a0, h1, h2⟩ := hA' a ha
    have := (HA.out a0 h1).2
    omega)
  have k0 : w4.cell? ⟨gc, 0, none⟩ = some (.int .u8 v) := (gbx_cell T4.out.box 0).trans ((cm_hd (kC v) (i := 0) (by omega)).trans rfl)
  have R4 : Hid (ECm.Bx 32 w4 g0 zeroCm) := Lib.hid (gbx_below (gbx_below R1.out b3) q4)
  have PA := Lib.hid (parts15 v (by omega) w4)
  have X3 := Lib.hid x3
  have Z4 := Lib.hid z4
  have HW4 := Lib.hid hw4
  have HGC := Lib.hid hgc
  clear d3 b3 x3 hw4 hgc q4 z4 TK NB HA LG Q2
  go_wp2_with (first | (refine rwl_store TCm { zeroCm with kd := v } w3.heap.size X3.out rfl rfl ?_; rw [HW4.out, HGC.out]))
  refine PA.out.mono ?_; rintro e w5 h5
  obtain ⟨A, c5, rfl, ps, q5⟩ := Ps.of (gc := gc) h5 (by rw [Z4.out]; omega)
  obtain ⟨N, hN⟩ : ∃ N, w4.heap.size = N := ⟨_, rfl⟩
  have S0 : Hid (Rs w1.heap.size w1 g0 g gc v A N bs w5 (kC v) b0 e0 0) := Lib.hid ⟨T4.out.below q5, PC0.out, BK0.out, rfl, hN ▸ ps, gbx_below R4.out q5⟩
  have HF := Lib.hid (flds_lt v)
  have LL := flds_len v
  obtain ⟨m, hm⟩ : ∃ m, (flds v).length = m := ⟨_, rfl⟩
  have HM := Lib.hid hm
  rw [hm] at LL ⊢
  clear ps q5 h5 PA X3 k0 PC0 BK0 T4 R4 hN hm hzc
  go_wp2_with fail
  go_loopw [7, 17] (fun _ i wr => ∃ (k : Nat) (c : Cm) (b : List Int) (e : Int), k ≤ m ∧ i = .int .i64 k ∧ Rs w1.heap.size w1 g0 g gc v A N bs wr c b e k) (fun _ i _ => m - (intOf i).toNat)
  case atStart => exact ⟨0, _, _, _, Nat.zero_le _, rfl, S0.out⟩
  case round =>
    obtain ⟨k, c, b, e, hk, rfl, hb⟩ := hrel
    have D := Lib.hid hb
    clear hb
    by_cases hlt : k < m
    case neg =>
      obtain rfl : k = m := by omega
      have hd : decide ((k : Int) < (k : Int)) = false := decide_eq_false (by omega)
      obtain ⟨A9, n9, k9, rq9, -⟩ := D.out.tq.rq
      have DN := Lib.hid (done_any g n9 k9 A9 b e wr rq9 (by have := rq9.r.1; have := D.out.tq.len; omega))
      have KL : Hid (k = (flds c.kd).length) := Lib.hid (by rw [D.out.kd]; exact HM.out.symm)
      have PCk : Hid (Wt.PC bs c b e (flds c.kd).length) := Lib.hid (by have := D.out.pc; rwa [KL.out] at this)
      have BKk : Hid (BK bs c b e (flds c.kd).length) := Lib.hid (by have := D.out.bk; rwa [KL.out] at this)
      obtain ⟨E, hE⟩ : ∃ E : Int, (if e = 0 ∧ 0 < b.length then (5 : Int) else e) = E := ⟨_, rfl⟩
      rw [hE] at DN
      have CX := Lib.hid (gbx_rng D.out.tq.box)
      have MC := Lib.hid fun U => pmayc15 c U D.out.bk.ok
      have RES := Lib.hid D.out.res
      have BB := Lib.hid (show Below g0 w wr from B1.out.trans (D.out.tq.bel.mono (by have := Z1.out; omega)))
      have HE := Lib.hid hE
      clear hlt rq9 hE
      by_cases h0 : E = 0
      case neg =>
        have d1 : decide (E = 0) = false := decide_eq_false h0
        have d2 : (E == 0) = false := by simpa using h0
        have d3 : (E != 0) = true := by simpa using h0
        have NO : Hid (∀ d, ¬ IsC bs d) := Lib.hid (rd_no PCk.out fun x => h0 (HE.out ▸ x.1))
        clear h0
        go_wp2_with fail
        refine DN.out.mono ?_; rintro e9 w9 ⟨rfl, rfl⟩
        go_wp2_with (refine rwl_store TCm zeroCm g0 RES.out rfl rfl ?_)
        refine bodyPost_ret (rret TCm rfl _ _ g0 rfl rfl (gbx_set RES.out)) rfl ⟨zeroCm, 5, rfl, .inr ⟨NO.out, rfl, rfl⟩, ?_⟩
        rw [HG.out]; exact below_row0 BB.out (Nat.le_refl _)
      case pos =>
        subst h0
        cases hmc : mcB c
        · rw [hmc] at MC
          have NO : Hid (∀ d, ¬ IsC bs d) := Lib.hid (rd_no PCk.out fun x => by have := mcB_yes.2 x.2; rw [hmc] at this; cases this)
          clear hmc
          go_wp2_with fail
          refine DN.out.mono ?_; rintro e9 w9 ⟨rfl, rfl⟩
          go_wp2_with ((with_reducible refine rwl_load TCm gc 0 CX.out ?_ ?_ ?_); rfl; rfl)
          refine (MC.out _).mono ?_; rintro e9 w9 ⟨rfl, q9⟩
          have R9 := Lib.hid (gbx_below RES.out q9)
          have B9 := Lib.hid (BB.out.trans (q9.mono (by have := BB.out.size; rw [HG.out] at this; exact this)))
          clear q9
          go_wp2_with (refine rwl_store TCm zeroCm g0 R9.out rfl rfl ?_)
          refine bodyPost_ret (rret TCm rfl _ _ g0 rfl rfl (gbx_set R9.out)) rfl ⟨zeroCm, 5, rfl, .inr ⟨NO.out, rfl, rfl⟩, ?_⟩
          rw [HG.out]; exact below_row0 B9.out (Nat.le_refl _)
        · rw [hmc] at MC
          have YES : Hid (IsC bs c) := Lib.hid (rd_yes BKk.out HE.out (mcB_yes.1 hmc))
          clear hmc
          go_wp2_with fail
          refine DN.out.mono ?_; rintro e9 w9 ⟨rfl, rfl⟩
          go_wp2_with ((with_reducible refine rwl_load TCm gc 0 CX.out ?_ ?_ ?_); rfl; rfl)
          refine (MC.out _).mono ?_; rintro e9 w9 ⟨rfl, q9⟩
          have R9 := Lib.hid (gbx_below RES.out q9)
          have C9 := Lib.hid (gbx_rng (gbx_below D.out.tq.box q9))
          have B9 := Lib.hid (BB.out.trans (q9.mono (by have := BB.out.size; rw [HG.out] at this; exact this)))
          clear q9
          go_wp2_with (first | ((with_reducible refine rwl_load TCm gc 0 C9.out ?_ ?_ ?_); rfl; rfl) | (refine rwl_store TCm c g0 R9.out rfl rfl ?_))
          refine bodyPost_ret (rret TCm rfl _ _ g0 rfl rfl (gbx_set R9.out)) rfl ⟨c, 0, rfl, .inl ⟨YES.out, rfl⟩, ?_⟩
          rw [HG.out]; exact below_row0 B9.out (Nat.le_refl _)
    case pos =>
      have hd : decide ((k : Int) < (m : Int)) = true := decide_eq_true (by omega)
      have hki : (k : Int) < (m : Int) := by omega
      obtain ⟨i, hi⟩ : ∃ i, (flds v)[k]? = some i := ⟨(flds v)[k]'(by rw [HM.out]; exact hlt), List.getElem?_eq_getElem _⟩
      have HI := Lib.hid hi
      have h10 := HF.out i (List.mem_of_getElem? hi)
      obtain ⟨b', o', rfl, rg⟩ := D.out.ps.at' hi
      have RG := Lib.hid rg
      have Z5 : Hid (EPa.Bx 57 (wr.alloc (.cells #[.nilFunc, .nilFunc, .nilFunc] 57)) wr.heap.size none) := Lib.hid (gbx_new wr none)
      obtain ⟨w6, hw6⟩ : ∃ W, (wr.alloc (.cells #[.nilFunc, .nilFunc, .nilFunc] 57)).setRow wr.heap.size (EPa.cells (ptI i (N + 5 * i))).toArray = W := ⟨_, rfl⟩
      obtain ⟨g5, hg5⟩ : ∃ g, wr.heap.size = g := ⟨_, rfl⟩
      have x5 : EPa.Bx 57 w6 g5 (ptI i (N + 5 * i)) := by rw [← hw6, ← hg5]; exact gbx_set Z5.out
      have q5 : Below wr.heap.size wr w6 := by rw [← hw6]; exact below_row0 (below_new _ _) (Nat.le_refl _)
      have D5 := Lib.hid (D.out.below q5)
      have k5 : w6.cell? ⟨g5, 1, none⟩ = some (.func (.func (pcR i)) #[] #[.pointer (some ⟨N + 5 * i + 2, 0, none⟩), .pointer (some ⟨N + 5 * i, 0, none⟩)]) := (gbx_cell x5 1).trans rfl
      have C := rdI h10 D5.out.tq (D5.out.ps.bxs i h10) (by have := D5.out.ps.gt; omega) (by have := D5.out.ps.sz; omega)
      unfold bx at C
      have C := Lib.hid C
      have eg := callR h10
      have HW5 := Lib.hid hw6
      have HG5 := Lib.hid hg5
      clear hi rg x5 q5 hw6 hg5
      go_wp2_with (first | ((with_reducible refine rwl_load TPr b' (o' + k * 3) RG.out ?_ ?_ ?_); rfl; rfl) | (refine rwl_store TPr (ptI i (N + 5 * i)) wr.heap.size Z5.out rfl rfl ?_; rw [HW5.out, HG5.out]))
      refine C.out.mono ?_; rintro e9 w7 ⟨rfl, t7, s7, f7⟩
      have D6 := Lib.hid (D5.out.next HI.out (by have := Z1.out; omega) (Nat.le_refl _) R1.out t7 s7 f7)
      clear t7 s7 f7 C
      go_wp2_with fail
      go_roundw
      case rel => exact ⟨k + 1, _, _, _, hlt, by go_num, D6.out⟩
      case measure => simp [intOf]; omega
end Go.Proofs.YtbmlpokkojhhjaaGreat.Wz
