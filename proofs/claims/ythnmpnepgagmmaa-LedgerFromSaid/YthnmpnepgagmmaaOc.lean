/- Contracts of the document's ledger: Trade (by genOc.py). -/
import Derived.Test.YthnmpnepgagmmaaOb
import Derived.Test.YthnmpnepgagmmaaDd
import Derived.Test.YthnmpnepgagmmaaMg
namespace Go.Proofs.Ythnmpnepgagmmaa
open Go.RowKit Go.Shelf
set_option linter.unusedVariables false
set_option linter.unusedSimpArgs false

theorem AfR.hold2 {w w1 w2 : World} {B g : Nat} {va vh v1 : Value} {L1 L2 : Lg} (f1 : Fr (fun k => k = g) w w1) (h2 : ∃ v', Rl w2 B g va v' L2 ∧ Fr (fun k => k = g) w1 w2 ∧ ∀ k, v'.ownBlock = some k → w1.heap.size ≤ k) : AfR w B g va vh L2 w2 := by
  obtain ⟨v', r, f, s⟩ := h2
  refine ⟨va, v', r, f1.same f, fun k hk => ?_⟩
  rcases hk with rfl | hk | hk
  · exact .inl (.inl rfl)
  · exact .inl (.inr (.inl hk))
  · exact .inr (Nat.le_trans f1.size (s k hk))
theorem gbx_fr9 {α : Type} {E : Elt α} {te : TypeId} {S : Nat → Prop} {w W : World} {g : Nat} {x : α} (h : E.Bx te w g x) (f : Fr S w W) (hS : ¬ S g) : E.Bx te W g x := (f.at' g (Array.getElem?_eq_some_iff.1 h).1 hS).trans h
theorem hold_len (hl : List Po) (p : Po) : (holdL hl p).length ≤ hl.length + 1 := by
  have := lay_len (geP p) (neP p) p hl (goneP p)
  unfold holdL
  split at this <;> omega
theorem there_at {L : Lg} (hi : LgI L) {n : Int} (hn : n ≠ 0) : (thereB L n = false ∧ atL L.al n = -1) ∨ (thereB L n = true ∧ ∃ k : Nat, atL L.al n = k) := by
  rcases at_of_atL hi n with ⟨e, h⟩ | ⟨k, x, e, _, h⟩
  · left
    refine ⟨?_, e⟩
    unfold thereB getL
    rw [if_neg hn, h]; rfl
  · right
    refine ⟨?_, k, e⟩
    unfold thereB getL
    rw [if_neg hn, h]; rfl
set_option maxRecDepth 100000 in
set_option maxHeartbeats 16000000 in
theorem rtra9 {B g : Nat} {va vh : Value} {L : Lg} (c b s p m : Int) (w : World) (h : Rl w B g va vh L) (hi : LgI L) (hlen : L.hl.length ≤ 4000) (hc : U32' c) (hb : U32' b) (hs : U32' s) :
    Calls Try.prog 16 #[.pointer (some ⟨g, 0, none⟩), .int .u32 c, .int .u32 b, .int .u32 s, .int .i64 p, .int .i64 m] w fun e w' => e = .returned (.int .i64 (traE L c b s p m)) ∧ AfR w B g va vh (traL L c b s p m) w' := by
  have hz := zero_po
  have HD := Lib.hid h
  have HI := Lib.hid hi
  have HC := Lib.hid hc
  have HB := Lib.hid hb
  have HS := Lib.hid hs
  have HLN := Lib.hid hlen
  have OP := Lib.hid (ramong p 1 10000000)
  have OM := Lib.hid (ramong m 1 10000000)
  rw [amg_one] at OP OM
  clear h hi hc hb hs hlen
  obtain ⟨t1, f1⟩ : ∃ t, (c == 0) = t := ⟨_, rfl⟩
  obtain ⟨t2, f2⟩ : ∃ t, (b == 0) = t := ⟨_, rfl⟩
  obtain ⟨t3, f3⟩ : ∃ t, (s == 0) = t := ⟨_, rfl⟩
  obtain ⟨t4, f4⟩ : ∃ t, (b == s) = t := ⟨_, rfl⟩
  obtain ⟨t5, f5⟩ : ∃ t, oneB p 10000000 = t := ⟨_, rfl⟩
  obtain ⟨t6, f6⟩ : ∃ t, oneB m 10000000 = t := ⟨_, rfl⟩
  rw [f5] at OP
  rw [f6] at OM
  go_enter Try.func16, Try.ntmps16
  cases t1
  rotate_left
  · have E : Hid (traE L c b s p m = 2) := Lib.hid (by unfold traE; rw [if_pos (.inl (beq_iff_eq.1 f1))])
    go_wp2_with fail
    go_ret
    rw [(traL_no E.out (by decide)).1, (traL_no E.out (by decide)).2]
    exact ⟨rfl, AfR.below HD.out (Below.refl _ _)⟩
  cases t2
  rotate_left
  · have E : Hid (traE L c b s p m = 2) := Lib.hid (by unfold traE; rw [if_pos (.inr (.inl (beq_iff_eq.1 f2)))])
    go_wp2_with fail
    go_ret
    rw [(traL_no E.out (by decide)).1, (traL_no E.out (by decide)).2]
    exact ⟨rfl, AfR.below HD.out (Below.refl _ _)⟩
  cases t3
  rotate_left
  · have E : Hid (traE L c b s p m = 2) := Lib.hid (by unfold traE; rw [if_pos (.inr (.inr (.inl (beq_iff_eq.1 f3))))])
    go_wp2_with fail
    go_ret
    rw [(traL_no E.out (by decide)).1, (traL_no E.out (by decide)).2]
    exact ⟨rfl, AfR.below HD.out (Below.refl _ _)⟩
  cases t4
  rotate_left
  · have E : Hid (traE L c b s p m = 2) := Lib.hid (by unfold traE; rw [if_pos (.inr (.inr (.inr (beq_iff_eq.1 f4))))])
    go_wp2_with fail
    go_ret
    rw [(traL_no E.out (by decide)).1, (traL_no E.out (by decide)).2]
    exact ⟨rfl, AfR.below HD.out (Below.refl _ _)⟩
  have N1 : Hid (¬ (c = 0 ∨ b = 0 ∨ s = 0 ∨ b = s)) := Lib.hid (by
    have g1 := beq_eq_false_iff_ne.1 f1
    have g2 := beq_eq_false_iff_ne.1 f2
    have g3 := beq_eq_false_iff_ne.1 f3
    have g4 := beq_eq_false_iff_ne.1 f4
    rintro (h | h | h | h)
    · exact g1 h
    · exact g2 h
    · exact g3 h
    · exact g4 h)
  cases t5
  · have E : Hid (traE L c b s p m = 2) := Lib.hid (by unfold traE; rw [if_neg N1.out, if_pos (.inl f5)])
    go_wp2_with fail
    refine (OP.out _).mono ?_; rintro e w2 ⟨rfl, rfl⟩
    go_wp2_with fail
    go_ret
    rw [(traL_no E.out (by decide)).1, (traL_no E.out (by decide)).2]
    exact ⟨rfl, AfR.below HD.out (Below.refl _ _)⟩
  cases t6
  · have E : Hid (traE L c b s p m = 2) := Lib.hid (by unfold traE; rw [if_neg N1.out, if_pos (.inr f6)])
    go_wp2_with fail
    refine (OP.out _).mono ?_; rintro e w2 ⟨rfl, rfl⟩
    go_wp2_with fail
    refine (OM.out _).mono ?_; rintro e w2 ⟨rfl, rfl⟩
    go_wp2_with fail
    go_ret
    rw [(traL_no E.out (by decide)).1, (traL_no E.out (by decide)).2]
    exact ⟨rfl, AfR.below HD.out (Below.refl _ _)⟩
  have N2 : Hid (¬ (oneB p mQ = false ∨ oneB m mQ = false)) := Lib.hid (by
    rintro (h | h)
    · rw [show oneB p mQ = true from f5] at h; cases h
    · rw [show oneB m mQ = true from f6] at h; cases h)
  have hp : 1 ≤ p ∧ p ≤ 10000000 := by simpa [oneB] using f5
  have hm : 1 ≤ m ∧ m ≤ 10000000 := by simpa [oneB] using f6
  have TB := there_at HI.out (fun e => N1.out (.inr (.inl e)) : b ≠ 0)
  have TS := there_at HI.out (fun e => N1.out (.inr (.inr (.inl e))) : s ≠ 0)
  have AB := Lib.hid fun (W : World) (q : Rl W B g va vh L) => rat9 b W q HB.out
  have AS := Lib.hid fun (W : World) (q : Rl W B g va vh L) => rat9 s W q HS.out
  go_wp2_with fail
  refine (OP.out _).mono ?_; rintro e w2 ⟨rfl, rfl⟩
  go_wp2_with fail
  refine (OM.out _).mono ?_; rintro e w2 ⟨rfl, rfl⟩
  clear f1 f2 f3 f4 f5 f6
  rcases TB with ⟨tb, ab⟩ | ⟨tb, kb, ab⟩
  · have E : Hid (traE L c b s p m = 7) := Lib.hid (by unfold traE; rw [if_neg N1.out, if_neg N2.out, if_pos (.inl tb)])
    rw [ab] at AB
    clear TS ab tb
    go_wp2_with fail
    refine (AB.out _ HD.out).mono ?_; rintro e w2 ⟨rfl, rfl⟩
    go_wp2_with fail
    go_ret
    rw [(traL_no E.out (by decide)).1, (traL_no E.out (by decide)).2]
    exact ⟨rfl, AfR.below HD.out (Below.refl _ _)⟩
  rw [ab] at AB
  have kd : decide ((kb : Int) < 0) = false := decide_eq_false (by omega)
  rcases TS with ⟨ts, as_⟩ | ⟨ts, ks, as_⟩
  · have E : Hid (traE L c b s p m = 7) := Lib.hid (by unfold traE; rw [if_neg N1.out, if_neg N2.out, if_pos (.inr ts)])
    rw [as_] at AS
    clear as_ ts ab tb
    go_wp2_with fail
    refine (AB.out _ HD.out).mono ?_; rintro e w2 ⟨rfl, rfl⟩
    go_wp2_with fail
    refine (AS.out _ HD.out).mono ?_; rintro e w2 ⟨rfl, rfl⟩
    go_wp2_with fail
    go_ret
    rw [(traL_no E.out (by decide)).1, (traL_no E.out (by decide)).2]
    exact ⟨rfl, AfR.below HD.out (Below.refl _ _)⟩
  rw [as_] at AS
  have kd2 : decide ((ks : Int) < 0) = false := decide_eq_false (by omega)
  have N3 : Hid (¬ (thereB L b = false ∨ thereB L s = false)) := Lib.hid (by rw [tb, ts]; simp)
  have P1 := Lib.hid fun (W : World) (q : Rl W B g va vh L) => rpos9 c b W q HI.out HC.out HB.out
  have P2 := Lib.hid fun (W : World) (q : Rl W B g va vh L) => rpos9 c s W q HI.out HC.out HS.out
  have XB := posH_b HI.out c b
  have YB := posH_b HI.out c s
  have ex : posH L.hl c b = ⟨c, b, (posH L.hl c b).q, (posH L.hl c b).b⟩ := by
    have := posH_co L.hl c b
    generalize posH L.hl c b = z at *
    obtain ⟨z1, z2, z3, z4⟩ := z
    obtain ⟨e1, e2⟩ := this
    dsimp only at e1 e2
    subst e1 e2
    rfl
  have ey : posH L.hl c s = ⟨c, s, (posH L.hl c s).q, (posH L.hl c s).b⟩ := by
    have := posH_co L.hl c s
    generalize posH L.hl c s = z at *
    obtain ⟨z1, z2, z3, z4⟩ := z
    obtain ⟨e1, e2⟩ := this
    dsimp only at e1 e2
    subst e1 e2
    rfl
  have E3 : Hid (traE L c b s p m = if inB (boughtP L c b p m) = false ∨ inB (soldP L c s p m) = false then 6 else 0) := Lib.hid (by unfold traE; rw [if_neg N1.out, if_neg N2.out, if_neg N3.out])
  have TL : Hid (traE L c b s p m = 0 → traL L c b s p m = ⟨L.fund, L.al, holdL (holdL L.hl (boughtP L c b p m)) (soldP L c s p m)⟩) := Lib.hid fun e => by unfold traL; rw [if_pos e]
  unfold boughtP soldP at E3 TL
  obtain ⟨xq, hxq⟩ : ∃ z, (posH L.hl c b).q = z := ⟨_, rfl⟩
  obtain ⟨xb, hxb⟩ : ∃ z, (posH L.hl c b).b = z := ⟨_, rfl⟩
  obtain ⟨yq, hyq⟩ : ∃ z, (posH L.hl c s).q = z := ⟨_, rfl⟩
  obtain ⟨yb, hyb⟩ : ∃ z, (posH L.hl c s).b = z := ⟨_, rfl⟩
  rw [hxq, hxb] at ex XB E3 TL
  rw [hyq, hyb] at ey YB E3 TL
  rw [ex] at P1
  rw [ey] at P2
  have mb := mul_b hp hm
  obtain ⟨pm, hpm⟩ : ∃ z, p * m = z := ⟨_, rfl⟩
  rw [hpm] at mb E3 TL
  simp only [mQ, mF] at XB YB
  obtain ⟨⟨xa1, xa2⟩, xa3, xa4⟩ := XB
  obtain ⟨⟨ya1, ya2⟩, ya3, ya4⟩ := YB
  obtain ⟨m1, m2⟩ := hm
  obtain ⟨p1, p2⟩ := hp
  obtain ⟨mb1, mb2⟩ := mb
  have u1 : wrap64 (xq + m) = xq + m := by unfold wrap64; omega
  have u2 : wrap64 (yq - m) = yq - m := by unfold wrap64; omega
  have u3 : wrap64 pm = pm := by unfold wrap64; omega
  have u4 : wrap64 (xb + pm) = xb + pm := by unfold wrap64; omega
  have u5 : wrap64 (yb - pm) = yb - pm := by unfold wrap64; omega
  have u3' : p * m = pm := hpm
  obtain ⟨t1, f1⟩ : ∃ t, decide (10000000 < xq + m) = t := ⟨_, rfl⟩
  obtain ⟨t2, f2⟩ : ∃ t, decide (yq - m < -10000000) = t := ⟨_, rfl⟩
  obtain ⟨t3, f3⟩ : ∃ t, decide (1000000000000000 < xb + pm) = t := ⟨_, rfl⟩
  obtain ⟨t4, f4⟩ : ∃ t, decide (yb - pm < -1000000000000000) = t := ⟨_, rfl⟩
  have E4 : Hid (traE L c b s p m = if (t1 || t2 || t3 || t4) = true then 6 else 0) := Lib.hid (by
    rw [E3.out]
    congr 1
    refine propext ?_
    rw [← f1, ← f2, ← f3, ← f4]
    unfold inB mQ mF
    dsimp only
    simp only [Bool.and_eq_false_iff, Bool.or_eq_true, decide_eq_true_eq, decide_eq_false_iff_not]
    omega)
  clear N1 N2 N3 ab as_ tb ts ex ey hxq hxb hyq hyb hpm E3
  go_wp2_with fail
  refine (AB.out _ HD.out).mono ?_; rintro e w2 ⟨rfl, rfl⟩
  go_wp2_with fail
  refine (AS.out _ HD.out).mono ?_; rintro e w2 ⟨rfl, rfl⟩
  go_wp2_with fail
  refine (P1.out _ HD.out).mono ?_; rintro e w2 ⟨rfl, q2⟩
  obtain ⟨W1, hW1, b1, x1⟩ := newP9 w2
  have HW1 := Lib.hid hW1
  have X1 := Lib.hid x1
  obtain ⟨W3, hW3⟩ : ∃ W3, W1.setRow w2.heap.size (EP.cells ⟨c, b, xq, xb⟩).toArray = W3 := ⟨_, rfl⟩
  have HW3 := Lib.hid hW3
  have x3 : EP.Bx 47 W3 w2.heap.size ⟨c, b, xq, xb⟩ := by rw [← hW3]; exact gbx_set x1
  have X3 := Lib.hid x3
  have B3 : Hid (Below w.heap.size w W3) := Lib.hid (by rw [← hW3]; exact below_row0 (q2.trans (b1.mono q2.size)) q2.size)
  have GE : Hid (w.heap.size ≤ w2.heap.size) := Lib.hid q2.size
  have D3 := Lib.hid (HD.out.below B3.out)
  clear q2 hW1 b1 x1 hW3 x3 AB AS P1
  go_wp2_with ((rw [HW1.out]; refine gwl_store TP ⟨c, b, xq, xb⟩ w2.heap.size X1.out rfl rfl ?_; rw [HW3.out]))
  refine (P2.out _ D3.out).mono ?_; rintro e w4 ⟨rfl, q4⟩
  obtain ⟨W4, hW4, b4, y4⟩ := newP9 w4
  have HW4 := Lib.hid hW4
  have Y4 := Lib.hid y4
  obtain ⟨W5, hW5⟩ : ∃ W5, W4.setRow w4.heap.size (EP.cells ⟨c, s, yq, yb⟩).toArray = W5 := ⟨_, rfl⟩
  have HW5 := Lib.hid hW5
  have y5 : EP.Bx 47 W5 w4.heap.size ⟨c, s, yq, yb⟩ := by rw [← hW5]; exact gbx_set y4
  have B35 : Below W3.heap.size W3 W5 := by rw [← hW5]; exact below_row0 (q4.trans (b4.mono q4.size)) q4.size
  have x5 : EP.Bx 47 W5 w2.heap.size ⟨c, b, xq, xb⟩ := gbx_below X3.out B35
  have B5 : Hid (Below w.heap.size w W5) := Lib.hid (B3.out.trans (B35.mono B3.out.size))
  have ne : w4.heap.size ≠ w2.heap.size := by have := (Array.getElem?_eq_some_iff.1 X3.out).1; have := q4.size; omega
  have GE4 : Hid (w.heap.size ≤ w4.heap.size) := Lib.hid (by have := B3.out.size; have := q4.size; omega)
  obtain ⟨W6, hW6⟩ : ∃ W, W5.setCell ⟨w2.heap.size, 2, none⟩ (.int .i64 (xq + m)) = W := ⟨_, rfl⟩
  have x6 : EP.Bx 47 W6 w2.heap.size ⟨c, b, xq + m, xb⟩ := by rw [← hW6]; exact gbx_put (i := 2) x5 rfl
  have y6 : EP.Bx 47 W6 w4.heap.size ⟨c, s, yq, yb⟩ := by rw [← hW6]; exact (heap_setCell_other W5 _ _ _ ne).trans y5
  obtain ⟨W7, hW7⟩ : ∃ W, W6.setCell ⟨w4.heap.size, 2, none⟩ (.int .i64 (yq - m)) = W := ⟨_, rfl⟩
  have x7 : EP.Bx 47 W7 w2.heap.size ⟨c, b, xq + m, xb⟩ := by rw [← hW7]; exact (heap_setCell_other W6 _ _ _ (Ne.symm ne)).trans x6
  have y7 : EP.Bx 47 W7 w4.heap.size ⟨c, s, yq - m, yb⟩ := by rw [← hW7]; exact gbx_put (i := 2) y6 rfl
  obtain ⟨W8, hW8⟩ : ∃ W, W7.setCell ⟨w2.heap.size, 3, none⟩ (.int .i64 (xb + pm)) = W := ⟨_, rfl⟩
  have x8 : EP.Bx 47 W8 w2.heap.size ⟨c, b, xq + m, xb + pm⟩ := by rw [← hW8]; exact gbx_put (i := 3) x7 rfl
  have y8 : EP.Bx 47 W8 w4.heap.size ⟨c, s, yq - m, yb⟩ := by rw [← hW8]; exact (heap_setCell_other W7 _ _ _ ne).trans y7
  obtain ⟨W9, hW9⟩ : ∃ W, W8.setCell ⟨w4.heap.size, 3, none⟩ (.int .i64 (yb - pm)) = W := ⟨_, rfl⟩
  have x9 : EP.Bx 47 W9 w2.heap.size ⟨c, b, xq + m, xb + pm⟩ := by rw [← hW9]; exact (heap_setCell_other W8 _ _ _ (Ne.symm ne)).trans x8
  have y9 : EP.Bx 47 W9 w4.heap.size ⟨c, s, yq - m, yb - pm⟩ := by rw [← hW9]; exact gbx_put (i := 3) y8 rfl
  have B9 : Hid (Below w.heap.size w W9) := Lib.hid (by rw [← hW9, ← hW8, ← hW7, ← hW6]; exact (((B5.out.setCell GE.out _).setCell GE4.out _).setCell GE.out _).setCell GE4.out _)
  have c5 : W5.cell? ⟨w2.heap.size, 2, none⟩ = some (.int .i64 xq) := gbx_cell x5 2
  have c6 : W6.cell? ⟨w4.heap.size, 2, none⟩ = some (.int .i64 yq) := gbx_cell y6 2
  have c7 : W7.cell? ⟨w2.heap.size, 3, none⟩ = some (.int .i64 xb) := gbx_cell x7 3
  have c8 : W8.cell? ⟨w4.heap.size, 3, none⟩ = some (.int .i64 yb) := gbx_cell y8 3
  have d1 : W9.cell? ⟨w2.heap.size, 2, none⟩ = some (.int .i64 (xq + m)) := gbx_cell x9 2
  have d2 : W9.cell? ⟨w4.heap.size, 2, none⟩ = some (.int .i64 (yq - m)) := gbx_cell y9 2
  have d3 : W9.cell? ⟨w2.heap.size, 3, none⟩ = some (.int .i64 (xb + pm)) := gbx_cell x9 3
  have d4 : W9.cell? ⟨w4.heap.size, 3, none⟩ = some (.int .i64 (yb - pm)) := gbx_cell y9 3
  have z5 := gbx_fz x5 2
  have z6 := gbx_fz y6 2
  have z7 := gbx_fz x7 3
  have z8 := gbx_fz y8 3
  have HW6 := Lib.hid hW6
  have HW7 := Lib.hid hW7
  have HW8 := Lib.hid hW8
  have HW9 := Lib.hid hW9
  have X9 := Lib.hid x9
  have Y9 := Lib.hid y9
  have RX9 := Lib.hid (gbx_rng x9)
  have GL : Hid (g < w.heap.size) := Lib.hid HD.out.gl
  clear q4 hW4 b4 y4 hW5 y5 B35 x5 ne hW6 hW7 hW8 hW9 x6 y6 x7 y7 x8 y8 x9 y9 xa1 xa2 xa3 xa4 ya1 ya2 ya3 ya4 m1 m2 p1 p2 mb1 mb2 P2 D3 kd kd2
  cases t1
  rotate_left
  · have E : Hid (traE L c b s p m = 6) := Lib.hid (by rw [E4.out]; simp)
    clear E4
    go_wp2_with (first | (rw [HW4.out]; refine gwl_store TP ⟨c, s, yq, yb⟩ w4.heap.size Y4.out rfl rfl ?_; rw [HW5.out]) | (rw [HW6.out]) | (rw [HW7.out]) | (rw [HW8.out]) | (rw [HW9.out]) | ((with_reducible refine gwl_load TP w2.heap.size 0 RX9.out ?_ ?_ ?_); rfl; rfl))
    go_ret
    rw [(traL_no E.out (by decide)).1, (traL_no E.out (by decide)).2]
    exact ⟨rfl, AfR.below HD.out B9.out⟩
  cases t2
  rotate_left
  · have E : Hid (traE L c b s p m = 6) := Lib.hid (by rw [E4.out]; simp)
    clear E4
    go_wp2_with (first | (rw [HW4.out]; refine gwl_store TP ⟨c, s, yq, yb⟩ w4.heap.size Y4.out rfl rfl ?_; rw [HW5.out]) | (rw [HW6.out]) | (rw [HW7.out]) | (rw [HW8.out]) | (rw [HW9.out]) | ((with_reducible refine gwl_load TP w2.heap.size 0 RX9.out ?_ ?_ ?_); rfl; rfl))
    go_ret
    rw [(traL_no E.out (by decide)).1, (traL_no E.out (by decide)).2]
    exact ⟨rfl, AfR.below HD.out B9.out⟩
  cases t3
  rotate_left
  · have E : Hid (traE L c b s p m = 6) := Lib.hid (by rw [E4.out]; simp)
    clear E4
    go_wp2_with (first | (rw [HW4.out]; refine gwl_store TP ⟨c, s, yq, yb⟩ w4.heap.size Y4.out rfl rfl ?_; rw [HW5.out]) | (rw [HW6.out]) | (rw [HW7.out]) | (rw [HW8.out]) | (rw [HW9.out]) | ((with_reducible refine gwl_load TP w2.heap.size 0 RX9.out ?_ ?_ ?_); rfl; rfl))
    go_ret
    rw [(traL_no E.out (by decide)).1, (traL_no E.out (by decide)).2]
    exact ⟨rfl, AfR.below HD.out B9.out⟩
  cases t4
  rotate_left
  · have E : Hid (traE L c b s p m = 6) := Lib.hid (by rw [E4.out]; simp)
    clear E4
    go_wp2_with (first | (rw [HW4.out]; refine gwl_store TP ⟨c, s, yq, yb⟩ w4.heap.size Y4.out rfl rfl ?_; rw [HW5.out]) | (rw [HW6.out]) | (rw [HW7.out]) | (rw [HW8.out]) | (rw [HW9.out]) | ((with_reducible refine gwl_load TP w2.heap.size 0 RX9.out ?_ ?_ ?_); rfl; rfl))
    go_ret
    rw [(traL_no E.out (by decide)).1, (traL_no E.out (by decide)).2]
    exact ⟨rfl, AfR.below HD.out B9.out⟩
  have E : Hid (traE L c b s p m = 0) := Lib.hid (by rw [E4.out]; rfl)
  have ET := Lib.hid (TL.out E.out)
  have PU := Lib.hid (rhold9 ⟨c, b, xq + m, xb + pm⟩ W9 (HD.out.below B9.out) (by have := HLN.out; omega))
  clear E4 TL
  go_wp2_with (first | (rw [HW4.out]; refine gwl_store TP ⟨c, s, yq, yb⟩ w4.heap.size Y4.out rfl rfl ?_; rw [HW5.out]) | (rw [HW6.out]) | (rw [HW7.out]) | (rw [HW8.out]) | (rw [HW9.out]) | ((with_reducible refine gwl_load TP w2.heap.size 0 RX9.out ?_ ?_ ?_); rfl; rfl))
  refine PU.out.mono ?_; rintro e w10 ⟨rfl, v1, r1, f1', s1⟩
  have F10 := Lib.hid ((Fr.below B9.out).same f1' : Fr (fun k => k = g) w w10)
  have Y10 := Lib.hid (gbx_rng (gbx_fr9 Y9.out f1' (fun e => by have := GL.out; have := GE4.out; omega)))
  have PU2 := Lib.hid (rhold9 ⟨c, s, yq - m, yb - pm⟩ w10 r1 (by have := HLN.out; have := hold_len L.hl ⟨c, b, xq + m, xb + pm⟩; show (holdL L.hl _).length ≤ 5000; omega))
  clear r1 f1' s1 PU
  go_wp2_with ((with_reducible refine gwl_load TP w4.heap.size 0 Y10.out ?_ ?_ ?_); rfl; rfl)
  refine PU2.out.mono ?_; rintro e w11 ⟨rfl, h2⟩
  have H2 := Lib.hid h2
  clear h2 PU2
  go_wp2_with fail
  go_ret
  rw [E.out, ET.out]
  exact ⟨rfl, AfR.hold2 (v1 := v1) (L1 := L) F10.out H2.out⟩
end Go.Proofs.Ythnmpnepgagmmaa
