/- WordsReads, walked given what the document's ReadReply tells (by genWde.py). -/
import Derived.Test.YtbmlpokkojhhjaaGreatG13
import Derived.Test.YtbmlpokkojhhjaaGreatG31
import Derived.Test.YtbmlpokkojhhjaaGreatHWdo
namespace Go.Proofs.YtbmlpokkojhhjaaGreat
open Go.RowKit
set_option linter.unusedVariables false
set_option linter.unusedSimpArgs false

/-- What the document's ReadReply tells. -/
def RdRK : Prop := ∀ (A : Option Addr) (n cap : Nat) (bs : List Int) (w : World), RdB w A n bs → By bs → n ≤ 20000 → n ≤ cap → Calls Tryz.prog 8 #[.slice A n cap] w fun e w' =>
    ∃ (v : Rv) (r : Rw) (E : Int), e = .returned (.tuple #[.agg (ERv.cells v).toArray, .int .i64 E]) ∧ v.ok ∧ v.In w' r ∧ (IsR bs r ∧ E = 0 ∨ (∀ d, ¬ IsR bs d) ∧ r = zeroRw ∧ E = 5) ∧ Below w.heap.size w w'
theorem same_c15 {bs : List Int} {c d : Cm} {E E' : Int} (h : IsC bs c ∧ E = 0 ∨ (∀ d, ¬ IsC bs d) ∧ c = zeroCm ∧ E = 5) (k : IsC bs d ∧ E' = 0 ∨ (∀ d, ¬ IsC bs d) ∧ d = zeroCm ∧ E' = 5) : d = c ∧ E' = E ∧ c.ok := by
  have zok : zeroCm.ok := Wt.zeroCm_ok15 (v := 0) (by omega)
  rcases h with ⟨h1, rfl⟩ | ⟨h1, rfl, rfl⟩
  · rcases k with ⟨k1, rfl⟩ | ⟨k1, -, -⟩
    · exact ⟨k1.one h1, rfl, h1.1⟩
    · exact absurd h1 (k1 c)
  · rcases k with ⟨k1, -⟩ | ⟨-, rfl, rfl⟩
    · exact absurd k1 (h1 d)
    · exact ⟨rfl, rfl, zok⟩
theorem same_r15 {bs : List Int} {c d : Rw} {E E' : Int} (h : IsR bs c ∧ E = 0 ∨ (∀ d, ¬ IsR bs d) ∧ c = zeroRw ∧ E = 5) (k : IsR bs d ∧ E' = 0 ∨ (∀ d, ¬ IsR bs d) ∧ d = zeroRw ∧ E' = 5) : d = c ∧ E' = E ∧ c.ok := by
  have zok : zeroRw.ok := errR_ok (e := 0) (by unfold I64; omega)
  rcases h with ⟨h1, rfl⟩ | ⟨h1, rfl, rfl⟩
  · rcases k with ⟨k1, rfl⟩ | ⟨k1, -, -⟩
    · exact ⟨k1.one h1, rfl, h1.1⟩
    · exact absurd h1 (k1 c)
  · rcases k with ⟨k1, -⟩ | ⟨-, rfl, rfl⟩
    · exact absurd k1 (h1 d)
    · exact ⟨rfl, rfl, zok⟩
theorem own_cap15 {W : World} {base e size m n c : Nat} {A : Option Addr} {xs : List Value} (h : W.ownsRow base e size (.slice A m c) n xs) : m ≤ c := by
  rcases h.2 with ⟨e1, e2⟩ | ⟨g, cap, cur, e1, _, _, h1, _⟩
  · cases e1; exact Nat.le_refl _
  · cases e1; exact h1
set_option maxRecDepth 100000 in
set_option maxHeartbeats 64000000 in
theorem reads15_all (K : WordsK) (RK : RdRK) (A : Option Addr) (len cap : Nat) (bs : List Int) (w : World) (hr : RdB w A len bs) (hy : By bs) (h0 : A = none → len = 0 ∧ cap = 0) (hl : len ≤ maxLen) (hlc : len ≤ cap) :
    Calls Tryz.prog 3 #[.slice A len cap] w fun e w' => e = .returned (.bool true) ∧ Below w.heap.size w w' := by
  have KN := Lib.hid fun W => known15 K W
  have NL := Lib.hid hr.1
  have hl' := hl
  unfold maxLen at hl
  by_cases h2 : 20000 < len
  · have d0 : decide (20000 < (len : Int)) = true := decide_eq_true (by omega)
    clear K RK hr hy h0 hl' h2
    go_enter Tryz.func3, Tryz.ntmps3
    go_wp2_with fail
    refine (KN.out _).mono ?_; rintro e w8 ⟨rfl, q8⟩
    have Q8 := Lib.hid q8
    clear q8
    go_wp2_with fail
    go_ret
    exact ⟨rfl, Q8.out⟩
  have d0 : decide (20000 < (len : Int)) = false := decide_eq_false (by omega)
  have hl2 : len ≤ 20000 := by omega
  have hzc := zero_cm15
  have hzr := zero_rv15
  have TB := Lib.hid fun (W : World) (b : Below w.heap.size w W) => hr.below b
  have RC := Lib.hid fun (A' : Option Addr) (c' : Nat) (W : World) (h : RdB W A' len bs) (h1 : A' = none → len = 0 ∧ c' = 0) => K.rdC A' len c' bs W h hy h1 (by omega)
  have RR := Lib.hid fun (A' : Option Addr) (c' : Nat) (W : World) (h : RdB W A' len bs) (h1 : A' = none → len = 0 ∧ c' = 0) => K.rdR A' len c' bs W h hy h1 (by omega)
  have DC := Lib.hid fun (W : World) (b : Below w.heap.size w W) => Wt.rrdC15 A len cap bs W (hr.below b) hy hl2 hlc
  have DR := Lib.hid fun (W : World) (b : Below w.heap.size w W) => RK A len cap bs W (hr.below b) hy hl2 hlc
  have N1 := Lib.hid h0
  obtain ⟨W1, hW1⟩ : ∃ W, w.alloc (.cells #[] 5) = W := ⟨_, rfl⟩
  have O0 := Lib.hid (show W1.ownsRow w.heap.size 5 1 (.slice (some ⟨w.heap.size, 0, none⟩) 0 0) 0 [] by rw [← hW1]; exact own_none w)
  have Q0 := Lib.hid (show Below w.heap.size w W1 by rw [← hW1]; exact (Below.refl w.heap.size w).alloc (Nat.le_refl _) _)
  have S1 : Hid (w.heap.size ≤ W1.heap.size) := Lib.hid Q0.out.size
  have TQ := Lib.hid (TB.out W1 Q0.out)
  have HW1 := Lib.hid hW1
  clear K RK hr hy h0 hl' h2 hW1
  go_enter Tryz.func3, Tryz.ntmps3
  go_wp2_with (first | (rw [HW1.out]) | (at_builtin; refine stop_of ?_))
  refine stop_end ?_
  refine wpl_append rfl (.tmp 16) (.tmp 17) rfl w.heap.size (.slice (some ⟨w.heap.size, 0, none⟩) 0 0) 0 [] rfl O0.out A len cap bs rfl TQ.out N1.out (by omega) S1.out ?_
  intro v5 w5 o5 g5
  have Q5 := Lib.hid (Q0.out.grown g5 S1.out (by intro k hk; simp [Value.ownBlock] at hk; omega))
  have O5 := Lib.hid (show w5.ownsRow w.heap.size 5 1 v5 len (bs.map (Value.int .u8)) by simpa using o5)
  obtain ⟨W6, hW6⟩ : ∃ W, w5.alloc (.cells #[.int .u8 77] 5) = W := ⟨_, rfl⟩
  have O6 := Lib.hid (show W6.ownsRow w.heap.size 5 1 v5 len (bs.map (Value.int .u8)) by rw [← hW6]; exact O5.out.alloc _)
  have P6 := Lib.hid (show RdB W6 (some ⟨w5.heap.size, 0, none⟩) 1 [77] by rw [← hW6]; exact byte_new15 w5 77)
  have Q6 := Lib.hid (show Below w.heap.size w W6 by rw [← hW6]; exact Q5.out.alloc Q5.out.size _)
  have HW6 := Lib.hid hW6
  clear o5 g5 hW6
  go_wp2_with (first | (rw [HW6.out]) | (at_builtin; refine stop_of ?_))
  refine stop_end ?_
  refine wpl_append rfl (.tmp 18) (.tmp 19) rfl w.heap.size v5 len (bs.map (Value.int .u8)) rfl O6.out (some ⟨w5.heap.size, 0, none⟩) 1 1 [77] rfl P6.out (fun h => by cases h) (by omega) Q6.out.size ?_
  intro v7 w7 o7 g7
  have Q7 := Lib.hid (Q6.out.grown g7 Q6.out.size (fun k hk => (O6.out.lt k hk).1))
  have o8 := own_snoc15 NL.out o7
  have rr := owns_pt o8
  obtain ⟨A8, c8, hv8, r8, -⟩ := rr
  rw [List.length_append, NL.out] at hv8 r8
  simp only [List.length_singleton] at hv8 r8
  obtain ⟨b8, o8', e8, hc8⟩ := r8.2 (by omega)
  subst e8 hv8
  have c8le : len + 1 ≤ c8 := by
    have := own_cap15 o7
    omega
  have R8 := Lib.hid (show RdB w7 (some ⟨b8, o8', none⟩) len bs from ⟨NL.out, fun hn => ⟨b8, o8', rfl, fun j hj => by have h := hc8 j (by omega); rw [h]; congr 2; simp [List.getD, List.getElem?_append_left (show j < bs.length by rw [NL.out]; exact hj)]⟩⟩)
  have C8 := Lib.hid (show w7.cell? ⟨b8, o8' + len, none⟩ = some (.int .u8 77) by have h := hc8 len (by omega); rw [h]; congr 2; simp [List.getD, ← NL.out])
  have lc8 : len ≤ c8 := by omega
  clear o7 g7 o8 r8 hc8
  go_wp2_with fail
  refine (RC.out _ c8 w7 R8.out (fun h => by cases h)).mono ?_; rintro e wa ⟨c, E1, rfl, hc1, qa⟩
  have Ba := Lib.hid (Q7.out.trans (qa.mono Q7.out.size))
  have QA := Lib.hid qa
  clear qa
  have Zb : Hid (ECm.Bx 32 (wa.alloc (.cells (ECm.cells zeroCm).toArray 32)) wa.heap.size zeroCm) := Lib.hid (gbx_new wa _)
  obtain ⟨Wb, hW⟩ : ∃ W, (wa.alloc (.cells (ECm.cells zeroCm).toArray 32)).setRow wa.heap.size (ECm.cells c).toArray = W := ⟨_, rfl⟩
  obtain ⟨gb, hg⟩ : ∃ g, wa.heap.size = g := ⟨_, rfl⟩
  have xb : ECm.Bx 32 Wb gb c := by rw [← hW, ← hg]; exact gbx_set Zb.out
  have bb : Below wa.heap.size wa Wb := by rw [← hW]; exact below_row0 (below_new _ _) (Nat.le_refl _)
  have Db := Lib.hid bb
  have Xb := Lib.hid fun (U : World) (q : Below Wb.heap.size Wb U) => gbx_rng (gbx_below xb q)
  have Bb := Lib.hid (Ba.out.trans (bb.mono Ba.out.size))
  have HWb := Lib.hid hW; have HGb := Lib.hid hg
  clear hW hg xb bb
  go_wp2_with (refine rwl_store TCm c wa.heap.size Zb.out rfl rfl ?_; rw [HWb.out, HGb.out])
  refine (DC.out Wb Bb.out).mono ?_; rintro e wc ⟨c', E2, rfl, hc2, qc⟩
  obtain ⟨rfl, rfl, cok⟩ := same_c15 hc1 hc2
  have COK := Lib.hid cok
  have Bc := Lib.hid (Bb.out.trans (qc.mono Bb.out.size))
  have QC := Lib.hid qc
  clear qc hc1 hc2 cok
  have Zd : Hid (ECm.Bx 32 (wc.alloc (.cells (ECm.cells zeroCm).toArray 32)) wc.heap.size zeroCm) := Lib.hid (gbx_new wc _)
  obtain ⟨Wd, hW⟩ : ∃ W, (wc.alloc (.cells (ECm.cells zeroCm).toArray 32)).setRow wc.heap.size (ECm.cells c').toArray = W := ⟨_, rfl⟩
  obtain ⟨gd, hg⟩ : ∃ g, wc.heap.size = g := ⟨_, rfl⟩
  have xd : ECm.Bx 32 Wd gd c' := by rw [← hW, ← hg]; exact gbx_set Zd.out
  have bd : Below wc.heap.size wc Wd := by rw [← hW]; exact below_row0 (below_new _ _) (Nat.le_refl _)
  have Dd := Lib.hid bd
  have Xd := Lib.hid fun (U : World) (q : Below Wd.heap.size Wd U) => gbx_rng (gbx_below xd q)
  have Bd := Lib.hid (Bc.out.trans (bd.mono Bc.out.size))
  have HWd := Lib.hid hW; have HGd := Lib.hid hg
  clear hW hg xd bd
  have CH7 : Hid (Below w7.heap.size w7 Wd) := Lib.hid (by
    have a1 := QA.out.trans (Db.out.mono QA.out.size)
    have a2 := a1.trans (QC.out.mono a1.size)
    exact a2.trans (Dd.out.mono a2.size))
  have CHb : Hid (Below Wb.heap.size Wb Wd) := Lib.hid (QC.out.trans (Dd.out.mono QC.out.size))
  go_wp2_with (refine rwl_store TCm c' wc.heap.size Zd.out rfl rfl ?_; rw [HWd.out, HGd.out])
  refine (RR.out _ c8 Wd (R8.out.below CH7.out) (fun h => by cases h)).mono ?_; rintro e we ⟨v, r, E3, rfl, vo, vi, hr1, qe⟩
  have Be := Lib.hid (Bd.out.trans (qe.mono Bd.out.size))
  have QE := Lib.hid qe
  clear qe
  have Zf : Hid (ERv.Bx 40 (we.alloc (.cells (ERv.cells zeroRv).toArray 40)) we.heap.size zeroRv) := Lib.hid (gbx_new we _)
  obtain ⟨Wf, hW⟩ : ∃ W, (we.alloc (.cells (ERv.cells zeroRv).toArray 40)).setRow we.heap.size (ERv.cells v).toArray = W := ⟨_, rfl⟩
  obtain ⟨gf, hg⟩ : ∃ g, we.heap.size = g := ⟨_, rfl⟩
  have xf : ERv.Bx 40 Wf gf v := by rw [← hW, ← hg]; exact gbx_set Zf.out
  have bf : Below we.heap.size we Wf := by rw [← hW]; exact below_row0 (below_new _ _) (Nat.le_refl _)
  have Df := Lib.hid bf
  have Xf := Lib.hid fun (U : World) (q : Below Wf.heap.size Wf U) => gbx_rng (gbx_below xf q)
  have Bf := Lib.hid (Be.out.trans (bf.mono Be.out.size))
  have HWf := Lib.hid hW; have HGf := Lib.hid hg
  clear hW hg xf bf
  go_wp2_with (refine rwl_store TRv v we.heap.size Zf.out rfl rfl ?_; rw [HWf.out, HGf.out])
  refine (DR.out Wf Bf.out).mono ?_; rintro e wg ⟨v', r', E4, rfl, vo', vi', hr2, qg⟩
  obtain ⟨rfl, rfl, rok⟩ := same_r15 hr1 hr2
  have ROK := Lib.hid rok
  have VO := Lib.hid vo
  have VO' := Lib.hid vo'
  have Bg := Lib.hid (Bf.out.trans (qg.mono Bf.out.size))
  have QG := Lib.hid qg
  have VI' := Lib.hid vi'
  have VI := Lib.hid vi
  clear qg hr1 hr2 rok vo vo' vi vi'
  have Zh : Hid (ERv.Bx 40 (wg.alloc (.cells (ERv.cells zeroRv).toArray 40)) wg.heap.size zeroRv) := Lib.hid (gbx_new wg _)
  obtain ⟨Wh, hW⟩ : ∃ W, (wg.alloc (.cells (ERv.cells zeroRv).toArray 40)).setRow wg.heap.size (ERv.cells v').toArray = W := ⟨_, rfl⟩
  obtain ⟨gh, hg⟩ : ∃ g, wg.heap.size = g := ⟨_, rfl⟩
  have xh : ERv.Bx 40 Wh gh v' := by rw [← hW, ← hg]; exact gbx_set Zh.out
  have bh : Below wg.heap.size wg Wh := by rw [← hW]; exact below_row0 (below_new _ _) (Nat.le_refl _)
  have Dh := Lib.hid bh
  have Xh := Lib.hid fun (U : World) (q : Below Wh.heap.size Wh U) => gbx_rng (gbx_below xh q)
  have Bh := Lib.hid (Bg.out.trans (bh.mono Bg.out.size))
  have HWh := Lib.hid hW; have HGh := Lib.hid hg
  clear hW hg xh bh
  have CHf : Hid (Below Wf.heap.size Wf Wh) := Lib.hid (QG.out.trans (Dh.out.mono QG.out.size))
  have CHd : Hid (Below Wd.heap.size Wd Wh) := Lib.hid (by
    have a1 := QE.out.trans (Df.out.mono QE.out.size)
    exact a1.trans (CHf.out.mono a1.size))
  have CB : Hid (Below Wb.heap.size Wb Wh) := Lib.hid (CHb.out.trans (CHd.out.mono CHb.out.size))
  have C7 : Hid (Below w7.heap.size w7 Wh) := Lib.hid (CH7.out.trans (CHd.out.mono CH7.out.size))
  have L4 := Lib.hid (Xb.out Wh CB.out)
  have L6 := Lib.hid (Xd.out Wh CHd.out)
  have L8 := Lib.hid (Xf.out Wh CHf.out)
  have L10 := Lib.hid (Xh.out Wh (Below.refl _ _))
  have V8 := Lib.hid (VI.out.below (Df.out.trans (CHf.out.mono Df.out.size)))
  have V10 := Lib.hid (VI'.out.below Dh.out)
  go_wp2_with (first | (refine rwl_store TRv v' wg.heap.size Zh.out rfl rfl ?_; rw [HWh.out, HGh.out]) | ((with_reducible refine rwl_load TCm gb 0 L4.out ?_ ?_ ?_); rfl; rfl) | ((with_reducible refine rwl_load TCm gd 0 L6.out ?_ ?_ ?_); rfl; rfl) | ((with_reducible refine wl_eql_cm15 COK.out COK.out ?_ ?_ ?_ ?_); rfl; rfl; rfl; rw [eqCm_yes]) | ((with_reducible refine rwl_load TRv gf 0 L8.out ?_ ?_ ?_); rfl; rfl) | ((with_reducible refine rwl_load TRv gh 0 L10.out ?_ ?_ ?_); rfl; rfl))
  refine (rsame15 _ _ _ _ Wh VO.out V8.out ROK.out VO'.out V10.out ROK.out).mono ?_; rintro e wi ⟨rfl, qi⟩
  rw [show eqRw r' r' = true from eqRw_yes.2 rfl]
  have C7i := Lib.hid (C7.out.trans (qi.mono C7.out.size))
  have Bi := Lib.hid (Bh.out.trans (qi.mono Bh.out.size))
  have k1 := conv_any (c := c8) (R8.out.below C7i.out)
  have k2 := conv_any (c := cap) (TB.out wi Bi.out)
  have kc : wi.cell? ⟨b8, o8' + len, none⟩ = some (.int .u8 77) := (cell_below C8.out C7i.out (Nat.le_refl _))
  have hcap : (len : Int) + 1 ≤ (c8 : Int) := by omega
  clear qi
  go_wp2_with fail
  refine (KN.out _).mono ?_; rintro e wk ⟨rfl, qk⟩
  have Qk := Lib.hid (Bi.out.trans (qk.mono Bi.out.size))
  clear qk
  go_wp2_with fail
  go_ret
  exact ⟨rfl, Qk.out⟩
end Go.Proofs.YtbmlpokkojhhjaaGreat
