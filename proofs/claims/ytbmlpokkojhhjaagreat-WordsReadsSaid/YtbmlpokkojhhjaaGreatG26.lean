/- Texts of a proof, laid together: Wdp, Wfr, Wfg. -/
import Derived.Test.YtbmlpokkojhhjaaGreatG13
import Derived.Test.YtbmlpokkojhhjaaGreatG12
import Derived.Test.YtbmlpokkojhhjaaGreatG25
import Derived.Test.YtbmlpokkojhhjaaGreatG15
/- WordsCommands, walked (by genWdp.py). -/
namespace Go.Proofs.YtbmlpokkojhhjaaGreat
open Go.RowKit
set_option linter.unusedVariables false
set_option linter.unusedSimpArgs false

theorem formC_len15 {c : Cm} (ok : c.ok) : (formC c).length ≤ 2000 := by
  have h : ∀ l : List Nat, (∀ i, i ∈ l → i < 10) → (l.flatMap (fF c)).length ≤ 250 * l.length := by
    intro l
    induction l with
    | nil => intro _; simp
    | cons i l ih =>
      intro hl
      have h1 := fF_len ok i (hl i (by simp))
      have h2 := ih fun j hj => hl j (by simp [hj])
      rw [List.flatMap_cons, List.length_append, List.length_cons]
      omega
  have h1 := h (flds c.kd) (flds_lt c.kd)
  have h2 := flds_len c.kd
  have h3 : (nb c.kd.toNat).length ≤ 10 := nb_ten (by have := ok.kd; omega)
  unfold formC
  rw [List.length_append]
  omega









































































































































































































end Go.Proofs.YtbmlpokkojhhjaaGreat
/- The program's words: a command written. -/
namespace Go.Proofs.YtbmlpokkojhhjaaGreat.Wz
open Go.RowKit
set_option linter.unusedVariables false
set_option linter.unusedSimpArgs false

/-- What is written so far. -/
def wF (c : Cm) (k : Nat) : List Int := nb c.kd.toNat ++ ((flds c.kd).take k).flatMap (fF c)
theorem wF_all {c : Cm} {k : Nat} (h : (flds c.kd).length = k) : wF c k = formC c := by
  unfold wF formC
  rw [List.take_of_length_le (by omega)]
theorem wF_next {c : Cm} {k i : Nat} (h : (flds c.kd)[k]? = some i) : wF c (k + 1) = wF c k ++ fF c i := by
  unfold wF
  rw [List.take_add_one, h, List.flatMap_append, ← List.append_assoc]
  simp
theorem wF_len {c : Cm} (ok : c.ok) (k : Nat) : (wF c k).length ≤ 2000 := by
  have h := formC_len15 ok
  unfold formC at h
  rw [← List.take_append_drop k (flds c.kd), List.flatMap_append, ← List.append_assoc, List.length_append] at h
  unfold wF
  omega
theorem wF_pos (c : Cm) (k : Nat) : 0 < (wF c k).length := by
  unfold wF
  rw [List.length_append]
  have : 0 < (nb c.kd.toNat).length := nb_pos _
  omega
/-- A command, the parts of its kind. -/
structure Cs (w : World) (g : Nat) (v : Int) (A : Option Addr) (N : Nat) (c : Cm) (W : World) : Prop where
  p : ECm.Bx 32 W g c
  ps : Ps W v A N g
  bel : Below g w W
theorem Cs.below {w W W' : World} {g N : Nat} {v : Int} {A : Option Addr} {c : Cm} (h : Cs w g v A N c W) (q : Below W.heap.size W W') : Cs w g v A N c W' := by
  have := h.ps.sz
  have := h.ps.gt
  exact ⟨gbx_below h.p q, h.ps.below q, h.bel.trans (q.mono (by omega))⟩
set_option maxRecDepth 100000 in
set_option maxHeartbeats 16000000 in
theorem pcmd_no (c : Cm) (w : World) (ok : c.ok) (hm : mcB c = false) : Calls Tryz.prog 10 #[.agg (ECm.cells c).toArray] w fun e w' => ToldB [] 2 w.heap.size w w' e := by
  obtain ⟨W1, hW1⟩ : ∃ W, w.alloc (.cells (ECm.cells c).toArray 32) = W := ⟨_, rfl⟩
  have b1 : Below w.heap.size w W1 := by rw [← hW1]; exact below_new _ _
  have x1 : ECm.Bx 32 W1 w.heap.size c := by rw [← hW1]; exact gbx_new w _
  obtain ⟨g, hg⟩ : ∃ g, w.heap.size = g := ⟨_, rfl⟩
  rw [hg] at x1
  have X1 := Lib.hid (gbx_rng x1)
  have M := pmayc15 c W1 ok
  rw [hm] at M
  have MC := Lib.hid M
  have B1 := Lib.hid b1
  have HW1 := Lib.hid hW1
  have HG := Lib.hid hg
  clear ok hW1 b1 x1 M hm
  go_enter Tryz.func10, Tryz.ntmps10
  go_wp2_with (first | (rw [HW1.out]) | ((with_reducible refine rwl_load TCm g 0 X1.out ?_ ?_ ?_); rfl; rfl))
  refine MC.out.mono ?_; rintro e w2 ⟨rfl, q⟩
  have Q := Lib.hid (B1.out.trans (q.mono B1.out.size))
  clear q
  go_wp2_with fail
  go_ret2
  exact ⟨none, 0, 0, rfl, ⟨rfl, fun h => absurd h (Nat.lt_irrefl 0)⟩, Q.out, fun _ => ⟨rfl, rfl⟩⟩
set_option maxRecDepth 100000 in
set_option maxHeartbeats 16000000 in
theorem pcmd_yes (c : Cm) (w : World) (ok : c.ok) (hm : MayC c) : Calls Tryz.prog 10 #[.agg (ECm.cells c).toArray] w fun e w' => ToldB (formC c) 0 w.heap.size w w' e := by
  obtain ⟨W1, hW1⟩ : ∃ W, w.alloc (.cells (ECm.cells c).toArray 32) = W := ⟨_, rfl⟩
  have b1 : Below w.heap.size w W1 := by rw [← hW1]; exact below_new _ _
  have x1 : ECm.Bx 32 W1 w.heap.size c := by rw [← hW1]; exact gbx_new w _
  have z1 : W1.heap.size = w.heap.size + 1 := by rw [← hW1]; simp
  obtain ⟨g, hg⟩ : ∃ g, w.heap.size = g := ⟨_, rfl⟩
  rw [hg] at x1 b1 z1
  have X1 := Lib.hid fun (U : World) (b : Below W1.heap.size W1 U) => gbx_rng (gbx_below x1 b)
  have Y1 := Lib.hid fun (U : World) (b : Below W1.heap.size W1 U) => gbx_below x1 b
  have KC := Lib.hid fun (U : World) (b : Below W1.heap.size W1 U) => (show U.cell? ⟨g, 0, none⟩ = some (.int .u8 c.kd) from (gbx_cell (gbx_below x1 b) 0).trans ((cm_hd c (i := 0) (by omega)).trans rfl))
  have M := pmayc15 c W1 ok
  rw [mcB_yes.2 hm] at M
  have MC := Lib.hid M
  have hn0 : ∀ U : World, RdB U none 0 [] := fun U => ⟨rfl, fun h => absurd h (Nat.lt_irrefl 0)⟩
  have e0 : ((c.kd.toNat : Nat) : Int) = c.kd := Int.toNat_of_nonneg ok.kd.1
  have PK := Lib.hid fun (U : World) => (by
    have C := putsk none 0 [] c.kd.toNat U (hn0 U) (fun _ => ⟨rfl, rfl⟩) (by simp) (by have := ok.kd; omega)
    rw [e0] at C
    have f : wF c 0 = [] ++ nb c.kd.toNat := by unfold wF; rw [List.take_zero]; simp
    rw [f]
    exact C : Calls Tryz.prog 36 #[.slice none 0 0, .int .u8 c.kd] U fun E W' => Made U (wF c 0) E W')
  have PA := Lib.hid fun U => parts15 c.kd ok.kd U
  have WL := Lib.hid (wF_len ok)
  have WP := Lib.hid (wF_pos c)
  have OK := Lib.hid ok
  have MM := Lib.hid hm
  have B1 := Lib.hid b1
  have Z1 := Lib.hid z1
  have HW1 := Lib.hid hW1
  have HG := Lib.hid hg
  obtain ⟨v, hv⟩ : ∃ v, c.kd = v := ⟨_, rfl⟩
  rw [hv] at KC PK PA
  have HV := Lib.hid hv
  have HF := Lib.hid (flds_lt v)
  have HS : Hid (∀ i, i ∈ flds v → i = 4 → mayB c.sp = true) := Lib.hid fun i h e => hm.sp (by rw [hv, ← e]; exact h)
  clear ok hm hW1 b1 x1 z1 M hn0 e0 hv hg
  go_enter Tryz.func10, Tryz.ntmps10
  go_wp2_with (first | (rw [HW1.out, HG.out]) | ((with_reducible refine rwl_load TCm g 0 (X1.out W1 (Below.refl _ _)) ?_ ?_ ?_); rfl; rfl))
  refine MC.out.mono ?_; rintro e w2 ⟨rfl, q⟩
  have Q2 := Lib.hid q
  have k2 := KC.out w2 q
  clear q MC
  go_wp2_with fail
  refine (PK.out _).mono ?_; rintro e w3 ⟨v3, rfl, n3⟩
  obtain ⟨A3, c3, rfl, r3, z3⟩ := owns_pt n3.o
  have Q3 := Lib.hid (Q2.out.trans (n3.q.mono Q2.out.size))
  have R3 := Lib.hid r3
  have k3 := KC.out w3 Q3.out
  clear n3 r3 z3 k2 PK
  obtain ⟨n0, hn0⟩ : ∃ n, (wF c 0).length = n := ⟨_, rfl⟩
  rw [hn0] at R3 ⊢
  have HN0 := Lib.hid hn0
  clear hn0
  go_wp2_with fail
  refine (PA.out _).mono ?_; rintro e w4 h4
  obtain ⟨A, k9, rfl, ps, q4⟩ := Ps.of (gc := g) h4 (by have := Q3.out.size; have := Z1.out; omega)
  have R4 := Lib.hid (R3.out.below q4)
  obtain ⟨N, hN⟩ : ∃ N, w3.heap.size = N := ⟨_, rfl⟩
  have D0 : Hid (Cs w g v A N c w4) := Lib.hid ⟨gbx_below (Y1.out w3 Q3.out) q4, hN ▸ ps, by
    have s2 := Q3.out.size
    have s1 := Z1.out
    exact B1.out.trans ((Q3.out.trans (q4.mono (by omega))).mono (by omega))⟩
  obtain ⟨m, hm⟩ : ∃ m, (flds v).length = m := ⟨_, rfl⟩
  have HM := Lib.hid hm
  have LL := flds_len v
  rw [hm] at LL ⊢
  clear ps q4 h4 PA k3 X1 Y1 KC Q2 hN hm
  go_wp2_with fail
  go_loopw [4, 6, 17] (fun v4 _ i wr => ∃ (k : Nat) (A' : Option Addr) (n' c' : Nat), k ≤ m ∧ i = .int .i64 k ∧ v4 = .slice A' n' c' ∧ (wF c k).length = n' ∧ RdB wr A' n' (wF c k) ∧ Cs w g v A N c wr) (fun _ _ i _ => m - (intOf i).toNat)
  case atStart => exact ⟨0, A3, n0, c3, Nat.zero_le _, rfl, rfl, HN0.out, R4.out, D0.out⟩
  case round =>
    obtain ⟨k, A', n', c', hk, rfl, rfl, hn', hr', hb⟩ := hrel
    have D := Lib.hid hb
    have RK := Lib.hid hr'
    have NK := Lib.hid hn'
    clear hb hr' hn'
    by_cases hlt : k < m
    case neg =>
      obtain rfl : k = m := by omega
      have hd : decide ((k : Int) < (k : Int)) = false := decide_eq_false (by omega)
      clear hlt
      go_wp2_with fail
      go_ret2
      rw [← wF_all (c := c) (k := k) (by rw [HV.out]; exact HM.out), HG.out]
      refine ⟨A', n', c', rfl, RK.out, D.out.bel, fun e => ?_⟩
      obtain ⟨b, o, e2, _⟩ := RK.out.2 (by have := WP.out k; have := NK.out; omega)
      rw [e] at e2; cases e2
    case pos =>
      have hd : decide ((k : Int) < (m : Int)) = true := decide_eq_true (by omega)
      have hki : (k : Int) < (m : Int) := by omega
      obtain ⟨i, hi⟩ : ∃ i, (flds v)[k]? = some i := ⟨(flds v)[k]'(by rw [HM.out]; exact hlt), List.getElem?_eq_getElem _⟩
      have HI := Lib.hid hi
      have h10 := HF.out i (List.mem_of_getElem? hi)
      obtain ⟨b, o, rfl, rg⟩ := D.out.ps.at' hi
      have RG := Lib.hid rg
      have Z5 : Hid (EPa.Bx 57 (wr.alloc (.cells #[.nilFunc, .nilFunc, .nilFunc] 57)) wr.heap.size none) := Lib.hid (gbx_new wr none)
      obtain ⟨w5, hw5⟩ : ∃ W, (wr.alloc (.cells #[.nilFunc, .nilFunc, .nilFunc] 57)).setRow wr.heap.size (EPa.cells (ptI i (N + 5 * i))).toArray = W := ⟨_, rfl⟩
      obtain ⟨g5, hg5⟩ : ∃ g, wr.heap.size = g := ⟨_, rfl⟩
      have x5 : EPa.Bx 57 w5 g5 (ptI i (N + 5 * i)) := by rw [← hw5, ← hg5]; exact gbx_set Z5.out
      have q5 : Below wr.heap.size wr w5 := by rw [← hw5]; exact below_row0 (below_new _ _) (Nat.le_refl _)
      have D5 := Lib.hid (D.out.below q5)
      have k5 : w5.cell? ⟨g5, 0, none⟩ = some (.func (.func (pcW i)) #[] #[.pointer (some ⟨N + 5 * i + 1, 0, none⟩), .pointer (some ⟨N + 5 * i, 0, none⟩)]) := (gbx_cell x5 0).trans rfl
      have R5 : RdB w5 A' (wF c k).length (wF c k) := by rw [NK.out]; exact RK.out.below q5
      have C := wrI h10 A' c' (wF c k) c w5 (D5.out.ps.bxs i h10) (by have := D5.out.ps.sz; omega) R5 (fun e => by
        obtain ⟨b, o, e2, _⟩ := R5.2 (WP.out k)
        rw [e] at e2; cases e2) (by have := WL.out k; omega) OK.out (HS.out i (List.mem_of_getElem? hi))
      rw [← wF_next (HV.out.symm ▸ hi), NK.out] at C
      unfold bx at C
      have C := Lib.hid C
      have P5 := Lib.hid (gbx_rng D5.out.p)
      have eg := callW h10
      have HW5 := Lib.hid hw5
      have HG5 := Lib.hid hg5
      clear hi rg x5 q5 hw5 hg5 R5
      go_wp2_with (first | ((with_reducible refine rwl_load TPr b (o + k * 3) RG.out ?_ ?_ ?_); rfl; rfl) | ((with_reducible refine rwl_load TCm g 0 P5.out ?_ ?_ ?_); rfl; rfl) | (refine rwl_store TPr (ptI i (N + 5 * i)) wr.heap.size Z5.out rfl rfl ?_; rw [HW5.out, HG5.out]))
      refine C.out.mono ?_; rintro e w6 ⟨A7, c7, rfl, r7, q7⟩
      obtain ⟨n7, hn7⟩ : ∃ n, (wF c (k + 1)).length = n := ⟨_, rfl⟩
      rw [hn7] at r7 ⊢
      have D6 := Lib.hid (D5.out.below q7)
      have R7 := Lib.hid r7
      have N7 := Lib.hid hn7
      clear r7 q7 hn7 C
      go_wp2_with fail
      go_roundw
      case rel => exact ⟨k + 1, A7, n7, c7, hlt, by go_num, rfl, N7.out, R7.out, D6.out⟩
      case measure => simp [intOf]; omega
theorem pcmd15 (c : Cm) (w : World) (ok : c.ok) : Calls Tryz.prog 10 #[.agg (ECm.cells c).toArray] w fun e w' => ToldB (cmF c) (cmE c) w.heap.size w w' e := by
  by_cases m : MayC c
  · rw [(cm_may m).1, (cm_may m).2]
    exact pcmd_yes c w ok m
  · rw [(cm_not m).1, (cm_not m).2]
    exact pcmd_no c w ok (by cases e : mcB c; rfl; exact absurd (mcB_yes.1 e) m)
end Go.Proofs.YtbmlpokkojhhjaaGreat.Wz
/- Plain: what is read field by field is the command of that form, or none. -/
namespace Go.Proofs.YtbmlpokkojhhjaaGreat.Wz
open Go.RowKit
set_option linter.unusedVariables false
set_option linter.unusedSimpArgs false

theorem iRs_ok15 {bs : List Int} (hy : By bs) (e : Int) : ∀ k x, x ∈ (iRs bs e k).1 → I64 x
  | 0, x, h => by simp [iRs] at h
  | k + 1, x, h => by
    rcases List.mem_append.1 (show x ∈ (iRs bs e k).1 ++ [(iR (iRs bs e k).2.1 (iRs bs e k).2.2).1] from h) with m | m
    · exact iRs_ok15 hy e k x m
    · rw [List.mem_singleton.1 m]
      exact iR_fits (iRs_by15 hy e k).1 _
theorem tS_ok15 {bs : List Int} (hy : By bs) (e : Int) : (tS fmax bs e).1.ok := by
  have f1 : fmax 0 = 4294967295 := rfl
  have f2 : fmax 1 = 255 := rfl
  have f7 : fmax 7 = 4294967295 := rfl
  have fm : ∀ i, 0 ≤ fmax i := fun i => by unfold fmax; split; · decide
                                           · split; · decide
                                             · split <;> decide
  unfold tS
  dsimp only
  have h0 := sR_by hy e (fmax 0)
  have m0 := sR_most hy e (fm 0)
  generalize sR bs e (fmax 0) = r0 at *
  have h1 := sR_by h0.1 r0.2.2 (fmax 1)
  have m1 := sR_most h0.1 r0.2.2 (fm 1)
  generalize sR r0.2.1 r0.2.2 (fmax 1) = r1 at *
  have h2 := sR_by h1.1 r1.2.2 (fmax 2)
  have m2 := sR_most h1.1 r1.2.2 (fm 2)
  generalize sR r1.2.1 r1.2.2 (fmax 2) = r2 at *
  have h3 := sR_by h2.1 r2.2.2 (fmax 3)
  have m3 := sR_most h2.1 r2.2.2 (fm 3)
  generalize sR r2.2.1 r2.2.2 (fmax 3) = r3 at *
  have h4 := sR_by h3.1 r3.2.2 (fmax 4)
  have m4 := sR_most h3.1 r3.2.2 (fm 4)
  generalize sR r3.2.1 r3.2.2 (fmax 4) = r4 at *
  have h5 := sR_by h4.1 r4.2.2 (fmax 5)
  have m5 := sR_most h4.1 r4.2.2 (fm 5)
  generalize sR r4.2.1 r4.2.2 (fmax 5) = r5 at *
  have hq := iRs_by15 h5.1 r5.2.2 16
  have mq := iRs_ok15 h5.1 r5.2.2 16
  have lq := iRs_len r5.2.1 r5.2.2 16
  generalize iRs r5.2.1 r5.2.2 16 = q at *
  have h6 := sR_by hq.1 q.2.2 (fmax 6)
  have m6 := sR_most hq.1 q.2.2 (fm 6)
  generalize sR q.2.1 q.2.2 (fmax 6) = r6 at *
  have h7 := sR_by h6.1 r6.2.2 (fmax 7)
  have m7 := sR_most h6.1 r6.2.2 (fm 7)
  generalize sR r6.2.1 r6.2.2 (fmax 7) = r7 at *
  have m8 := sR_most h7.1 r7.2.2 (fm 8)
  have l2 := fmax_le15 2
  have l3 := fmax_le15 3
  have l4 := fmax_le15 4
  have l5 := fmax_le15 5
  have l6 := fmax_le15 6
  have l8 := fmax_le15 8
  exact ⟨⟨m0.1, by dsimp only; omega⟩, ⟨m1.1, by dsimp only; omega⟩, ⟨by dsimp only; omega, by dsimp only; omega⟩, ⟨by dsimp only; omega, by dsimp only; omega⟩, ⟨by dsimp only; omega, by dsimp only; omega⟩, ⟨by dsimp only; omega, by dsimp only; omega⟩, lq, mq, ⟨by dsimp only; omega, by dsimp only; omega⟩, ⟨m7.1, by dsimp only; omega⟩, ⟨by dsimp only; omega, by dsimp only; omega⟩⟩
theorem took_ok15 {bs : List Int} (hy : By bs) (e : Int) : (took bs e).1.ok := by
  unfold took
  split
  · exact tS_ok15 hy e
  · exact zero_ok
theorem tS_start15 (m : Nat → Int) {bs : List Int} {e : Int} (h : (tS m bs e).2.2 = 0) : e = 0 := by
  unfold tS at h
  dsimp only at h
  exact sR_start (sR_start (sR_start (sR_start (sR_start (sR_start (iRs_start (sR_start (sR_start (sR_start h)))))))))
theorem took_start {bs : List Int} {e : Int} (h : (took bs e).2.2 = 0) : e = 0 := by
  unfold took at h
  split at h
  · exact tS_start15 fmax h
  · dsimp only at h
    by_cases c : (tS fmax bs e).2.2 = 0
    · exact tS_start15 fmax c
    · rw [if_neg c] at h; exact absurd h c
theorem fR_start15 {bs : List Int} {e : Int} (h : (fR bs e).2.2 = 0) : e = 0 := by
  refine Classical.byContradiction fun c => ?_
  unfold fR at h
  rw [if_pos c] at h
  exact c h
theorem fR_back15 {bs : List Int} (hy : By bs) (h : (fR bs 0).2.2 = 0) : bs = fb (fR bs 0).1 ++ (fR bs 0).2.1 := by
  unfold fR at h ⊢
  rw [if_neg (by simp)] at h ⊢
  by_cases h1 : bs.length = 0
  · rw [if_pos h1] at h; cases h
  · rw [if_neg h1] at h ⊢
    by_cases h2 : 1 < bs.getD 0 0
    · rw [if_pos h2] at h; cases h
    · rw [if_neg h2]
      dsimp only
      match bs, h1 with
      | x :: l, _ =>
        have h3 := hy x (by simp)
        simp only [List.getD, List.getElem?_cons_zero, Option.getD_some, List.drop_succ_cons, List.drop_zero] at h2 ⊢
        by_cases hx : x = 1
        · subst hx; simp [fb]
        · have : x = 0 := by omega
          subst this; simp [fb]
theorem rd_kd (c : Cm) (b : List Int) (e : Int) : ∀ i, i < 10 → (rdF c b e i).1.kd = c.kd := ten rfl rfl rfl rfl rfl rfl rfl rfl rfl rfl
theorem rd_other (c : Cm) (b : List Int) (e : Int) : ∀ i, i < 10 → ∀ j, j < 10 → j ≠ i → fF (rdF c b e i).1 j = fF c j := by
  refine ten ?_ ?_ ?_ ?_ ?_ ?_ ?_ ?_ ?_ ?_ <;>
  refine ten ?_ ?_ ?_ ?_ ?_ ?_ ?_ ?_ ?_ ?_ <;> first | exact fun h => absurd rfl h | exact fun _ => rfl
theorem rd_start (c : Cm) (b : List Int) (e : Int) : ∀ i, i < 10 → (rdF c b e i).2.2 = 0 → e = 0 :=
  ten (fun h => sR_start h) (fun h => sR_start h) (fun h => sR_start h) (fun h => iR_start h) (fun h => took_start h) (fun h => fR_start15 h) (fun h => fR_start15 h) (fun h => sR_start h) (fun h => iR_start h) (fun h => iR_start h)
theorem rd_by (c : Cm) {b : List Int} (hy : By b) (e : Int) : ∀ i, i < 10 → By (rdF c b e i).2.1 ∧ (rdF c b e i).2.1.length ≤ b.length :=
  ten (sR_by hy e _) (sR_by hy e _) (sR_by hy e _) (iR_by hy e) (took_by15 hy e) (Wt.fR_by15 hy e) (Wt.fR_by15 hy e) (sR_by hy e _) (iR_by hy e) (iR_by hy e)
theorem rd_back (c : Cm) {b : List Int} (hy : By b) : ∀ i, i < 10 → (rdF c b 0 i).2.2 = 0 → b = fF (rdF c b 0 i).1 i ++ (rdF c b 0 i).2.1 :=
  ten (fun h => (sR_back hy h).1) (fun h => (sR_back hy h).1) (fun h => (sR_back hy h).1) (fun h => (iR_back hy h).1) (fun h => (took_back hy h).1) (fun h => fR_back15 hy h) (fun h => fR_back15 hy h) (fun h => (sR_back hy h).1) (fun h => (iR_back hy h).1) (fun h => (iR_back hy h).1)
theorem rd_ok {c : Cm} (hc : c.ok) {b : List Int} (hy : By b) (e : Int) : ∀ i, i < 10 → (rdF c b e i).1.ok :=
  ten ⟨hc.kd, sR_most hy e (by decide), hc.ct, hc.nu, hc.am, hc.sp, hc.as', hc.px, hc.qt⟩ ⟨hc.kd, hc.ac, sR_most hy e (by decide), hc.nu, hc.am, hc.sp, hc.as', hc.px, hc.qt⟩ ⟨hc.kd, hc.ac, hc.ct, sR_bd hy e _, hc.am, hc.sp, hc.as', hc.px, hc.qt⟩ ⟨hc.kd, hc.ac, hc.ct, hc.nu, iR_fits hy e, hc.sp, hc.as', hc.px, hc.qt⟩ ⟨hc.kd, hc.ac, hc.ct, hc.nu, hc.am, took_ok15 hy e, hc.as', hc.px, hc.qt⟩
    ⟨hc.kd, hc.ac, hc.ct, hc.nu, hc.am, hc.sp, hc.as', hc.px, hc.qt⟩ ⟨hc.kd, hc.ac, hc.ct, hc.nu, hc.am, hc.sp, hc.as', hc.px, hc.qt⟩ ⟨hc.kd, hc.ac, hc.ct, hc.nu, hc.am, hc.sp, sR_most hy e (by decide), hc.px, hc.qt⟩ ⟨hc.kd, hc.ac, hc.ct, hc.nu, hc.am, hc.sp, hc.as', iR_fits hy e, hc.qt⟩ ⟨hc.kd, hc.ac, hc.ct, hc.nu, hc.am, hc.sp, hc.as', hc.px, iR_fits hy e⟩
theorem pc_step {bs0 : List Int} {c : Cm} {b : List Int} {e : Int} {k : Nat} (h : Wt.PC bs0 c b e k) : ∀ i, i < 10 → (flds c.kd)[k]? = some i → Wt.PC bs0 (rdF c b e i).1 (rdF c b e i).2.1 (rdF c b e i).2.2 (k + 1) :=
  ten (fun hi => Wt.step0_15 h hi rfl) (fun hi => Wt.step1_15 h hi rfl) (fun hi => Wt.step2_15 h hi rfl) (fun hi => Wt.step3_15 h hi rfl)
    (fun hi => Wt.step4_15 h hi (tK_len b e) fun sp r ok m he hb => by
      subst he hb
      have t := took_rest ok m r
      exact ⟨by rw [t], by show (took (form sp ++ r) 0).2.1 = r; rw [t], by show (took (form sp ++ r) 0).2.2 = 0; rw [t]⟩)
    (fun hi => Wt.step5_15 h hi rfl) (fun hi => Wt.step6_15 h hi rfl) (fun hi => Wt.step7_15 h hi rfl) (fun hi => Wt.step8_15 h hi rfl) (fun hi => Wt.step9_15 h hi rfl)
/-- What was read so far is what was there. -/
structure BK (bs0 : List Int) (c : Cm) (b : List Int) (e : Int) (k : Nat) : Prop where
  ok : c.ok
  by' : By b
  eq : e = 0 → bs0 = nb c.kd.toNat ++ ((flds c.kd).take k).flatMap (fF c) ++ b
theorem flat_same {F G : Nat → List Int} : ∀ (l : List Nat), (∀ j, j ∈ l → F j = G j) → l.flatMap F = l.flatMap G
  | [], _ => rfl
  | j :: l, h => by rw [List.flatMap_cons, List.flatMap_cons, h j (by simp), flat_same l fun i hi => h i (by simp [hi])]
theorem bk_step {bs0 : List Int} {c : Cm} {b : List Int} {e : Int} {k i : Nat} (h : BK bs0 c b e k) (hi : (flds c.kd)[k]? = some i) : BK bs0 (rdF c b e i).1 (rdF c b e i).2.1 (rdF c b e i).2.2 (k + 1) := by
  have h10 : i < 10 := flds_lt _ i (List.mem_of_getElem? hi)
  have hk := (List.getElem?_eq_some_iff.1 hi).1
  have nd := nodup15 c.kd
  refine ⟨rd_ok h.ok h.by' e i h10, (rd_by c h.by' e i h10).1, fun he => ?_⟩
  have e0 := rd_start c b e i h10 he
  subst e0
  have r := rd_back c h.by' i h10 he
  have tk : (flds c.kd).take (k + 1) = (flds c.kd).take k ++ [i] := by rw [List.take_add_one, hi]; rfl
  have ni : i ∉ (flds c.kd).take k := fun m => by
    have := (List.take_append_drop k (flds c.kd)) ▸ nd
    rw [List.nodup_append] at this
    have dr : (flds c.kd).drop k = i :: (flds c.kd).drop (k + 1) := by
      rw [List.getElem?_eq_getElem hk] at hi
      cases hi
      rw [List.getElem_cons_drop]
    exact this.2.2 i m i (by rw [dr]; simp) rfl
  rw [rd_kd c b 0 i h10, tk, List.flatMap_append, List.flatMap_cons, List.flatMap_nil, List.append_nil]
  rw [flat_same (F := fF (rdF c b 0 i).1) (G := fF c) _ fun j hj => rd_other c b 0 i h10 j (flds_lt _ j (List.mem_of_mem_take hj)) fun e => ni (e ▸ hj)]
  have q := h.eq rfl
  rw [r] at q
  rw [q]
  simp only [List.append_assoc]
theorem pc_start {bs0 : List Int} (hy : By bs0) {v : Int} {b : List Int} {e : Int} (hr : sR bs0 0 255 = (v, b, e)) : Wt.PC bs0 (kC v) b e 0 := fun d hd => by
  have k := hd.2.1.kd
  have f := hd.2.2
  unfold formC at f
  have q := sR_form (n := d.kd.toNat) (by omega) (most := 255) (by omega) ((flds d.kd).flatMap (fF d))
  rw [f, hr] at q
  simp only [Prod.mk.injEq] at q
  exact ⟨q.2.2, by show v = d.kd; omega, q.2.1, fun i hi => by simp at hi, fun i hi _ => kC_no v i hi⟩
theorem bk_start {bs0 : List Int} (hy : By bs0) {v : Int} {b : List Int} {e : Int} (hr : sR bs0 0 255 = (v, b, e)) : BK bs0 (kC v) b e 0 := by
  have m := sR_most hy 0 (m := 255) (by decide)
  have y := sR_by hy 0 255
  have k := sR_back hy (most := 255)
  rw [hr] at m y k
  refine ⟨kC_ok m, y.1, fun he => ?_⟩
  have := (k he).1
  show bs0 = nb v.toNat ++ ((flds (kC v).kd).take 0).flatMap (fF (kC v)) ++ b
  rw [List.take_zero]
  simpa using this
theorem rd_yes {bs0 : List Int} {c : Cm} {b : List Int} {e : Int} (h : BK bs0 c b e (flds c.kd).length) (hd : (if e = 0 ∧ 0 < b.length then (5 : Int) else e) = 0) (m : MayC c) : IsC bs0 c := by
  have e0 : e = 0 := by
    by_cases c : e = 0 ∧ 0 < b.length
    · exact c.1
    · rw [if_neg c] at hd; exact hd
  have b0 : b = [] := by
    cases b with
    | nil => rfl
    | cons x l => rw [if_pos ⟨e0, by simp⟩] at hd; cases hd
  have q := h.eq e0
  rw [List.take_length, b0, List.append_nil] at q
  exact ⟨h.ok, m, q.symm⟩
theorem rd_no {bs0 : List Int} {c : Cm} {b : List Int} {e : Int} (h : Wt.PC bs0 c b e (flds c.kd).length) (hn : ¬ ((if e = 0 ∧ 0 < b.length then (5 : Int) else e) = 0 ∧ MayC c)) (d : Cm) : ¬ IsC bs0 d := fun hd => by
  obtain ⟨a1, a2, a3⟩ := h.all rfl hd
  refine hn ⟨?_, a3 ▸ hd.2.1⟩
  rw [a1, a2]
  simp
end Go.Proofs.YtbmlpokkojhhjaaGreat.Wz
