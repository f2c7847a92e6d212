/- Contracts of the document's plain book: Replace. -/
import Derived.Test.YtdcjgcjnfcahkaaHBl
import Derived.Test.YtdcjgcjnfcahkaaG13
namespace Go.Proofs.Ytdcjgcjnfcahkaa
open Go.RowKit Go.Shelf
set_option linter.unusedVariables false
set_option linter.unusedSimpArgs false

section
variable {w W W5 W6 : World} {B G : Nat} {g : Bool → Nat} {v v5 : Bool → Value} {S T : Sd} {x : Px} {q : Pl} {R : Nat} {o : Or} {n p l c : Int}
theorem repl_come (h : findB S n = some o) (c : ¬ (p < 1 ∨ 10000000 < p ∨ l < 1 ∨ 1000000 < l)) (k : ¬ (p = o.pr ∧ l ≤ o.le)) : replA S n p l = 0 ∧ replP S n p l = comeP (S.up o.bu (dropO (S o.bu) n)) (o.at p l) true ∧ replS S n p l = comeS (S.up o.bu (dropO (S o.bu) n)) (o.at p l) true := by
  unfold replA replP replS; rw [h]; exact ⟨if_neg c, (if_neg c).trans (if_neg k), (if_neg c).trans (if_neg k)⟩
theorem brl_end (ha : replA S n p l = c ∧ replP S n p l = q ∧ replS S n p l = T) (hf : x.fi = q.fi ∧ x.lf = q.lf) (hb : BkP w B G g v T x q.td q.gn W) :
    ∃ x' : Px, Ending.returned (.tuple #[.agg (EPx.cells x).toArray, .int .i64 c]) = .returned (.tuple #[.agg (EPx.cells x').toArray, .int .i64 (replA S n p l)]) ∧ (x'.fi = (replP S n p l).fi ∧ x'.lf = (replP S n p l).lf) ∧ BkP w B G g v (replS S n p l) x' (replP S n p l).td (replP S n p l).gn W := by
  obtain ⟨e1, e2, e3⟩ := ha
  refine ⟨x, by rw [e1], ?_⟩
  rw [e2, e3]
  exact ⟨hf, hb⟩
theorem bkp_zero (h : Bk w B G g v S) (q : Below w.heap.size w W) : BkP w B G g v S zeroPx [] [] W := ⟨v, h.below q, Fr.below q, fun _ _ h => .inl h, Px.Is.zero _ _⟩
theorem bkp_set (h : Bk w B G g v S) (q : Below w.heap.size w W) (hN : BkN W B G g v T W5) (hR : w.heap.size ≤ R) (hRW : R < W.heap.size) (l : Int) (cs : Array Value) : BkP w B G g v T { zeroPx with lf := l } [] [] (W5.setRow R cs) := by
  obtain ⟨v5, b5, f5, r5⟩ := hN
  have f : Fr (fun k => k = R) W5 (W5.setRow R cs) := fr_row (S := fun k => k = R) rfl cs
  refine ⟨v5, b5.keep f (by have := h.gl; omega) (fun b => by have := h.gslt b; omega) (fun b k hk e => ?_), ((Fr.below q).same f5).trans f (fun _ h => h) (fun k hk e => by omega), fun b k hk => (r5 b k hk).imp id (fun c => Nat.le_trans q.size c), gown_nil _ _, gown_nil _ _⟩
  rcases r5 b k hk with c | c
  · have := h.vlt c; omega
  · omega
end
section
variable {B G : Nat} {g : Bool → Nat} {v : Bool → Value} {S : Sd}
set_option maxRecDepth 100000 in
set_option maxHeartbeats 8000000 in
theorem brepl_any {n p l : Int} (w : World) (h : Bk w B G g v S) (iv : InvB S) (hn : U64' n) (hp : I64' p) (hl : I64' l) :
    Calls Try.prog 35 #[.pointer (some ⟨G, 0, none⟩), .int .u64 n, .int .i64 p, .int .i64 l] w fun e w' => ∃ x : Px, e = .returned (.tuple #[.agg (EPx.cells x).toArray, .int .i64 (replA S n p l)]) ∧ (x.fi = (replP S n p l).fi ∧ x.lf = (replP S n p l).lf) ∧ BkP w B G g v (replS S n p l) x (replP S n p l).td (replP S n p l).gn w' := by
  have hz := zero_or
  have hpz := zero_px
  obtain ⟨W1, hW1, b1, xr, s1⟩ := px_new w
  have h1 := h.below b1
  have HW := Lib.hid hW1
  have B1 := Lib.hid b1
  have S1 := Lib.hid s1
  have XR := Lib.hid fun (W : World) (q : Below W1.heap.size W1 W) => (show EPx.Bx 49 W w.heap.size zeroPx from gbx_below xr q)
  have HB := Lib.hid fun (W : World) (q : Below W1.heap.size W1 W) => h1.below q
  have HH := Lib.hid h
  have GS := Lib.hid fun b => h.gslt b
  have PA := Lib.hid (bat_any W1 h1 hn)
  have VL := Lib.hid fun (b : Bool) (j : Nat) (hj : (v b).ownBlock = some j) => h.vlt hj
  have GL := Lib.hid h.gl
  have IV := Lib.hid iv
  have HN := Lib.hid hn
  have HP := Lib.hid hp
  have HL := Lib.hid hl
  rcases take_cases S n with ⟨e1, e2, e3⟩ | ⟨o, e1, e2, e3⟩
  · rw [e2, e3] at PA
    have EV := Lib.hid (repl_none (p := p) (l := l) e1)
    clear h iv hn hp hl h1 xr b1 hW1 s1 e1 e2 e3
    go_enter Try.func35, Try.ntmps35
    go_wp2_with fail
    rw [HW.out]
    refine PA.out.mono ?_; rintro e w2 ⟨rfl, q2⟩
    obtain ⟨V, hV, bV, yV, zV, sV⟩ := put_or zeroOr q2
    have HV := Lib.hid hV
    have ZV := Lib.hid zV
    have Q := Lib.hid bV
    have YV := Lib.hid yV
    have SV := Lib.hid sV
    have Q2 := Lib.hid q2
    have X9 := Lib.hid (XR.out _ bV)
    have BV := Lib.hid (B1.out.trans (bV.mono B1.out.size))
    clear q2 hV bV yV zV sV
    have FN := Lib.hid (fun cs => brl_end (x := zeroPx) (v := v) (w := w) (W := V.setRow w.heap.size cs) EV.out ⟨rfl, rfl⟩ (bkp_zero HH.out (below_row0 BV.out (Nat.le_refl _))))
    go_wp2_with (first | (refine wl_build0_px ?_) | (refine wl_store_px zeroPx w.heap.size X9.out rfl rfl ?_) | (refine gwl_store TO zeroOr w2.heap.size ZV.out rfl rfl ?_; rw [HV.out]))
    refine bodyPost_ret (ret_px2 rfl _ _ w.heap.size rfl rfl (gbx_set X9.out)) rfl ?_
    exact FN.out _
  rw [e2, e3] at PA
  have EX : Hid (o ∈ S o.bu ∧ o.nu = n) := Lib.hid (iv.own e1)
  have MO := Lib.hid ((iv.inv o.bu).may o EX.out.1).1
  have OO := Lib.hid ((iv.inv o.bu).ok o EX.out.1)
  have EA := Lib.hid fun c => repl_arg (p := p) (l := l) e1 c
  have EK := Lib.hid fun c k => repl_keep (p := p) (l := l) e1 c k
  have EC := Lib.hid fun c k => repl_come (p := p) (l := l) e1 c k
  clear h iv hn hp hl h1 xr b1 hW1 s1 e1 e2 e3
  by_cases c1 : p < 1
  · have d1 : decide (p < 1) = true := decide_eq_true c1
    have EV := Lib.hid (EA.out (.inl c1))
    clear EA EK EC c1
    go_enter Try.func35, Try.ntmps35
    go_wp2_with fail
    rw [HW.out]
    refine PA.out.mono ?_; rintro e w2 ⟨rfl, q2⟩
    obtain ⟨V, hV, bV, yV, zV, sV⟩ := put_or o q2
    have HV := Lib.hid hV
    have ZV := Lib.hid zV
    have Q := Lib.hid bV
    have YV := Lib.hid yV
    have SV := Lib.hid sV
    have Q2 := Lib.hid q2
    have X9 := Lib.hid (XR.out _ bV)
    have BV := Lib.hid (B1.out.trans (bV.mono B1.out.size))
    have cx2 : V.cell? ⟨w2.heap.size, 2, none⟩ = some (.bool o.bu) := gbx_cell yV 2
    have cx3 : V.cell? ⟨w2.heap.size, 3, none⟩ = some (.int .i64 o.pr) := gbx_cell yV 3
    have cx4 : V.cell? ⟨w2.heap.size, 4, none⟩ = some (.int .i64 o.le) := gbx_cell yV 4
    clear q2 hV bV yV zV sV
    have FN := Lib.hid (fun cs => brl_end (x := zeroPx) (v := v) (w := w) (W := V.setRow w.heap.size cs) EV.out ⟨rfl, rfl⟩ (bkp_zero HH.out (below_row0 BV.out (Nat.le_refl _))))
    go_wp2_with (first | (refine wl_build0_px ?_) | (refine wl_store_px zeroPx w.heap.size X9.out rfl rfl ?_) | (refine gwl_store TO o w2.heap.size ZV.out rfl rfl ?_; rw [HV.out]))
    refine bodyPost_ret (ret_px2 rfl _ _ w.heap.size rfl rfl (gbx_set X9.out)) rfl ?_
    exact FN.out _
  have d1 : decide (p < 1) = false := decide_eq_false c1
  by_cases c2 : 10000000 < p
  · have d2 : decide (10000000 < p) = true := decide_eq_true c2
    have EV := Lib.hid (EA.out (.inr (.inl c2)))
    clear EA EK EC c1 c2
    go_enter Try.func35, Try.ntmps35
    go_wp2_with fail
    rw [HW.out]
    refine PA.out.mono ?_; rintro e w2 ⟨rfl, q2⟩
    obtain ⟨V, hV, bV, yV, zV, sV⟩ := put_or o q2
    have HV := Lib.hid hV
    have ZV := Lib.hid zV
    have Q := Lib.hid bV
    have YV := Lib.hid yV
    have SV := Lib.hid sV
    have Q2 := Lib.hid q2
    have X9 := Lib.hid (XR.out _ bV)
    have BV := Lib.hid (B1.out.trans (bV.mono B1.out.size))
    have cx2 : V.cell? ⟨w2.heap.size, 2, none⟩ = some (.bool o.bu) := gbx_cell yV 2
    have cx3 : V.cell? ⟨w2.heap.size, 3, none⟩ = some (.int .i64 o.pr) := gbx_cell yV 3
    have cx4 : V.cell? ⟨w2.heap.size, 4, none⟩ = some (.int .i64 o.le) := gbx_cell yV 4
    clear q2 hV bV yV zV sV
    have FN := Lib.hid (fun cs => brl_end (x := zeroPx) (v := v) (w := w) (W := V.setRow w.heap.size cs) EV.out ⟨rfl, rfl⟩ (bkp_zero HH.out (below_row0 BV.out (Nat.le_refl _))))
    go_wp2_with (first | (refine wl_build0_px ?_) | (refine wl_store_px zeroPx w.heap.size X9.out rfl rfl ?_) | (refine gwl_store TO o w2.heap.size ZV.out rfl rfl ?_; rw [HV.out]))
    refine bodyPost_ret (ret_px2 rfl _ _ w.heap.size rfl rfl (gbx_set X9.out)) rfl ?_
    exact FN.out _
  have d2 : decide (10000000 < p) = false := decide_eq_false c2
  by_cases c3 : l < 1
  · have d3 : decide (l < 1) = true := decide_eq_true c3
    have EV := Lib.hid (EA.out (.inr (.inr (.inl c3))))
    clear EA EK EC c1 c2 c3
    go_enter Try.func35, Try.ntmps35
    go_wp2_with fail
    rw [HW.out]
    refine PA.out.mono ?_; rintro e w2 ⟨rfl, q2⟩
    obtain ⟨V, hV, bV, yV, zV, sV⟩ := put_or o q2
    have HV := Lib.hid hV
    have ZV := Lib.hid zV
    have Q := Lib.hid bV
    have YV := Lib.hid yV
    have SV := Lib.hid sV
    have Q2 := Lib.hid q2
    have X9 := Lib.hid (XR.out _ bV)
    have BV := Lib.hid (B1.out.trans (bV.mono B1.out.size))
    have cx2 : V.cell? ⟨w2.heap.size, 2, none⟩ = some (.bool o.bu) := gbx_cell yV 2
    have cx3 : V.cell? ⟨w2.heap.size, 3, none⟩ = some (.int .i64 o.pr) := gbx_cell yV 3
    have cx4 : V.cell? ⟨w2.heap.size, 4, none⟩ = some (.int .i64 o.le) := gbx_cell yV 4
    clear q2 hV bV yV zV sV
    have FN := Lib.hid (fun cs => brl_end (x := zeroPx) (v := v) (w := w) (W := V.setRow w.heap.size cs) EV.out ⟨rfl, rfl⟩ (bkp_zero HH.out (below_row0 BV.out (Nat.le_refl _))))
    go_wp2_with (first | (refine wl_build0_px ?_) | (refine wl_store_px zeroPx w.heap.size X9.out rfl rfl ?_) | (refine gwl_store TO o w2.heap.size ZV.out rfl rfl ?_; rw [HV.out]))
    refine bodyPost_ret (ret_px2 rfl _ _ w.heap.size rfl rfl (gbx_set X9.out)) rfl ?_
    exact FN.out _
  have d3 : decide (l < 1) = false := decide_eq_false c3
  by_cases c4 : 1000000 < l
  · have d4 : decide (1000000 < l) = true := decide_eq_true c4
    have EV := Lib.hid (EA.out (.inr (.inr (.inr c4))))
    clear EA EK EC c1 c2 c3 c4
    go_enter Try.func35, Try.ntmps35
    go_wp2_with fail
    rw [HW.out]
    refine PA.out.mono ?_; rintro e w2 ⟨rfl, q2⟩
    obtain ⟨V, hV, bV, yV, zV, sV⟩ := put_or o q2
    have HV := Lib.hid hV
    have ZV := Lib.hid zV
    have Q := Lib.hid bV
    have YV := Lib.hid yV
    have SV := Lib.hid sV
    have Q2 := Lib.hid q2
    have X9 := Lib.hid (XR.out _ bV)
    have BV := Lib.hid (B1.out.trans (bV.mono B1.out.size))
    have cx2 : V.cell? ⟨w2.heap.size, 2, none⟩ = some (.bool o.bu) := gbx_cell yV 2
    have cx3 : V.cell? ⟨w2.heap.size, 3, none⟩ = some (.int .i64 o.pr) := gbx_cell yV 3
    have cx4 : V.cell? ⟨w2.heap.size, 4, none⟩ = some (.int .i64 o.le) := gbx_cell yV 4
    clear q2 hV bV yV zV sV
    have FN := Lib.hid (fun cs => brl_end (x := zeroPx) (v := v) (w := w) (W := V.setRow w.heap.size cs) EV.out ⟨rfl, rfl⟩ (bkp_zero HH.out (below_row0 BV.out (Nat.le_refl _))))
    go_wp2_with (first | (refine wl_build0_px ?_) | (refine wl_store_px zeroPx w.heap.size X9.out rfl rfl ?_) | (refine gwl_store TO o w2.heap.size ZV.out rfl rfl ?_; rw [HV.out]))
    refine bodyPost_ret (ret_px2 rfl _ _ w.heap.size rfl rfl (gbx_set X9.out)) rfl ?_
    exact FN.out _
  have d4 : decide (1000000 < l) = false := decide_eq_false c4
  have CN : Hid (¬ (p < 1 ∨ 10000000 < p ∨ l < 1 ∨ 1000000 < l)) := Lib.hid (by omega)
  clear c1 c2 c3 c4
  by_cases k1 : p = o.pr
  · have f1 : (p == o.pr) = true := beq_iff_eq.2 k1
    by_cases k2 : l ≤ o.le
    · have f2 : decide (l ≤ o.le) = true := decide_eq_true k2
      have EV := Lib.hid (EK.out CN.out ⟨k1, k2⟩)
      clear EA EK EC k1 k2
      go_enter Try.func35, Try.ntmps35
      go_wp2_with fail
      rw [HW.out]
      refine PA.out.mono ?_; rintro e w2 ⟨rfl, q2⟩
      obtain ⟨V, hV, bV, yV, zV, sV⟩ := put_or o q2
      have HV := Lib.hid hV
      have ZV := Lib.hid zV
      have Q := Lib.hid bV
      have YV := Lib.hid yV
      have SV := Lib.hid sV
      have Q2 := Lib.hid q2
      have X9 := Lib.hid (XR.out _ bV)
      have BV := Lib.hid (B1.out.trans (bV.mono B1.out.size))
      have cx2 : V.cell? ⟨w2.heap.size, 2, none⟩ = some (.bool o.bu) := gbx_cell yV 2
      have cx3 : V.cell? ⟨w2.heap.size, 3, none⟩ = some (.int .i64 o.pr) := gbx_cell yV 3
      have cx4 : V.cell? ⟨w2.heap.size, 4, none⟩ = some (.int .i64 o.le) := gbx_cell yV 4
      clear q2 hV bV yV zV sV
      go_wp2_with (refine gwl_store TO o w2.heap.size ZV.out rfl rfl ?_; rw [HV.out])
      refine (bown_any o.bu _ (HB.out _ Q.out)).mono ?_; rintro e w4 ⟨rfl, rfl⟩
      clear cx2 cx3 cx4
      go_wp2_with fail
      refine (plow ((HB.out _ Q.out).ps o.bu) HN.out HL.out).mono ?_; rintro e W5 ⟨rfl, q5⟩
      have X5 : Hid (EPx.Bx 49 W5 w.heap.size zeroPx) := Lib.hid (by
        obtain ⟨_, _, f, _⟩ := q5
        exact (f.at' _ (Array.getElem?_eq_some_iff.1 X9.out).1 (fun c => by have := GS.out o.bu; omega)).trans X9.out)
      have N5 := Lib.hid ((HB.out _ Q.out).turn q5)
      have HR : Hid (w.heap.size < V.heap.size) := Lib.hid (Array.getElem?_eq_some_iff.1 X9.out).1
      have FN := Lib.hid (fun cs => brl_end (x := { zeroPx with lf := l }) (v := v) (w := w) EV.out ⟨rfl, rfl⟩ (bkp_set HH.out BV.out N5.out (Nat.le_refl _) HR.out l cs))
      clear q5
      go_wp2_with (first | (refine wl_build3_px l rfl ?_) | (refine wl_store_px { zeroPx with lf := l } w.heap.size X5.out rfl rfl ?_))
      refine bodyPost_ret (ret_px2 rfl _ _ w.heap.size rfl rfl (gbx_set X5.out)) rfl ?_
      exact FN.out _
    · have f2 : decide (l ≤ o.le) = false := decide_eq_false k2
      have EV := Lib.hid (EC.out CN.out (fun c => k2 c.2))
      clear EA EK EC k1 k2
      go_enter Try.func35, Try.ntmps35
      go_wp2_with fail
      rw [HW.out]
      refine PA.out.mono ?_; rintro e w2 ⟨rfl, q2⟩
      obtain ⟨V, hV, bV, yV, zV, sV⟩ := put_or o q2
      have HV := Lib.hid hV
      have ZV := Lib.hid zV
      have Q := Lib.hid bV
      have YV := Lib.hid yV
      have SV := Lib.hid sV
      have Q2 := Lib.hid q2
      have X9 := Lib.hid (XR.out _ bV)
      have BV := Lib.hid (B1.out.trans (bV.mono B1.out.size))
      have cx2 : V.cell? ⟨w2.heap.size, 2, none⟩ = some (.bool o.bu) := gbx_cell yV 2
      have cx3 : V.cell? ⟨w2.heap.size, 3, none⟩ = some (.int .i64 o.pr) := gbx_cell yV 3
      have cx4 : V.cell? ⟨w2.heap.size, 4, none⟩ = some (.int .i64 o.le) := gbx_cell yV 4
      clear q2 hV bV yV zV sV
      go_wp2_with (refine gwl_store TO o w2.heap.size ZV.out rfl rfl ?_; rw [HV.out])
      refine (bown_any o.bu _ (HB.out _ Q.out)).mono ?_; rintro e w4 ⟨rfl, rfl⟩
      clear cx2 cx3 cx4
      go_wp2_with fail
      refine (pdrop ((HB.out _ Q.out).ps o.bu) HN.out).mono ?_; rintro e W5 ⟨rfl, q5⟩
      obtain ⟨v5, b5, f5, r5⟩ := (HB.out _ Q.out).turn q5
      have hu : W1.heap.size ≤ w2.heap.size := Q2.out.size
      have hs := S1.out
      have hw : w2.heap.size < V.heap.size := SV.out
      have glt := GL.out
      have nb : ∀ b, w2.heap.size ≠ g b := fun b => by have := GS.out b; omega
      have X5 : EPx.Bx 49 W5 w.heap.size zeroPx := (f5.at' _ (by omega) (fun ⟨b, e⟩ => by have := GS.out b; omega)).trans X9.out
      have y5 : EO.Bx 31 W5 w2.heap.size o := (f5.at' _ hw (fun ⟨b, e⟩ => nb b e)).trans YV.out
      have c3 : W5.cell? ⟨w2.heap.size, 3, none⟩ = some (.int .i64 o.pr) := gbx_cell y5 3
      have g3 : W5.frozen? ⟨w2.heap.size, 3, none⟩ = false := gbx_fz y5 3
      have y6 : EO.Bx 31 (W5.setCell ⟨w2.heap.size, 3, none⟩ (.int .i64 p)) w2.heap.size (o.at p o.le) := gbx_put y5 rfl
      have c4 : (W5.setCell ⟨w2.heap.size, 3, none⟩ (.int .i64 p)).cell? ⟨w2.heap.size, 4, none⟩ = some (.int .i64 o.le) := gbx_cell y6 4
      have g4 : (W5.setCell ⟨w2.heap.size, 3, none⟩ (.int .i64 p)).frozen? ⟨w2.heap.size, 4, none⟩ = false := gbx_fz y6 4
      have y7 : EO.Bx 31 ((W5.setCell ⟨w2.heap.size, 3, none⟩ (.int .i64 p)).setCell ⟨w2.heap.size, 4, none⟩ (.int .i64 l)) w2.heap.size (o.at p l) := gbx_put y6 rfl
      obtain ⟨W7, hW7⟩ : ∃ W7, ((W5.setCell ⟨w2.heap.size, 3, none⟩ (.int .i64 p)).setCell ⟨w2.heap.size, 4, none⟩ (.int .i64 l)) = W7 := ⟨_, rfl⟩
      have ff : Fr (fun k => k = w2.heap.size) W5 W7 := hW7 ▸ (Fr.set (S := fun k => k = w2.heap.size) (p := ⟨w2.heap.size, 3, none⟩) rfl _).same (Fr.set (S := fun k => k = w2.heap.size) (p := ⟨w2.heap.size, 4, none⟩) rfl _)
      have RG7 := Lib.hid (gbx_rng y7)
      have nr : ∀ b k, (v5 b).ownBlock = some k → k ≠ w2.heap.size ∧ k ≠ w.heap.size := fun b k hk => by
        rcases r5 b k hk with c | c
        · have := VL.out b k c; omega
        · omega
      have h7 : Bk W7 B G g v5 (S.up o.bu (dropO (S o.bu) n)) := b5.keep ff (by omega) (fun b e => nb b e.symm) (fun b k hk e => (nr b k hk).1 e)
      have CM := Lib.hid (bcome_any (o := o.at p l) (k := 1) W7 h7 (by show InvO (!o.bu) ((S.up o.bu _) (!o.bu)); rw [Sd.up_not']; exact IV.out.inv _) ⟨OO.out.nu, OO.out.ac, HP.out, HL.out⟩ (by rw [may_at MO.out, decide_eq_false CN.out]; rfl))
      have F7 : Hid (Fr (gsB g) w W7) := Lib.hid (((Fr.below BV.out).same f5).trans ff (fun _ h => h) (fun k hk e => by omega))
      have R7 : Hid (∀ b k, (v5 b).ownBlock = some k → (v b).ownBlock = some k ∨ w.heap.size ≤ k) := Lib.hid (fun b k hk => (r5 b k hk).imp id (fun c => by omega))
      have N7 : Hid (∀ b, (v5 b).ownBlock ≠ some w.heap.size) := Lib.hid (fun b e => (nr b _ e).2 rfl)
      have X7 : Hid (EPx.Bx 49 W7 w.heap.size zeroPx) := Lib.hid ((ff.at' _ (Array.getElem?_eq_some_iff.1 X5).1 (by omega)).trans X5)
      have HW7 := Lib.hid hW7
      have S7 : Hid (w.heap.size < W7.heap.size) := Lib.hid (Array.getElem?_eq_some_iff.1 X7.out).1
      clear q5 b5 f5 r5 X5 y5 y6 y7 ff nr h7 hu hs hw glt nb hW7
      go_wp2_with ((with_reducible refine gwl_load TO w2.heap.size 0 RG7.out ?_ ?_ ?_); rfl; rfl)
      rw [HW7.out]
      refine CM.out.mono ?_; rintro e W8 ⟨x, rfl, hfl, hbk⟩
      have X8 : Hid (EPx.Bx 49 W8 w.heap.size zeroPx) := Lib.hid (by
        obtain ⟨_, _, f, _⟩ := hbk
        exact (f.at' _ S7.out (fun ⟨b, e⟩ => by have := GS.out b; omega)).trans X7.out)
      have FN := Lib.hid (fun cs => brl_end (x := x) (v := v) (w := w) EV.out hfl (bkp_comp (R := w.heap.size) HH.out F7.out R7.out N7.out hbk (Nat.le_refl _) S7.out cs))
      clear hfl hbk
      go_wp2_with (refine wl_store_px x w.heap.size X8.out rfl rfl ?_)
      refine bodyPost_ret (ret_px2 rfl _ _ w.heap.size rfl rfl (gbx_set X8.out)) rfl ?_
      exact FN.out _
  · have f1 : (p == o.pr) = false := beq_eq_false_iff_ne.2 k1
    have EV := Lib.hid (EC.out CN.out (fun c => k1 c.1))
    clear EA EK EC k1
    go_enter Try.func35, Try.ntmps35
    go_wp2_with fail
    rw [HW.out]
    refine PA.out.mono ?_; rintro e w2 ⟨rfl, q2⟩
    obtain ⟨V, hV, bV, yV, zV, sV⟩ := put_or o q2
    have HV := Lib.hid hV
    have ZV := Lib.hid zV
    have Q := Lib.hid bV
    have YV := Lib.hid yV
    have SV := Lib.hid sV
    have Q2 := Lib.hid q2
    have X9 := Lib.hid (XR.out _ bV)
    have BV := Lib.hid (B1.out.trans (bV.mono B1.out.size))
    have cx2 : V.cell? ⟨w2.heap.size, 2, none⟩ = some (.bool o.bu) := gbx_cell yV 2
    have cx3 : V.cell? ⟨w2.heap.size, 3, none⟩ = some (.int .i64 o.pr) := gbx_cell yV 3
    have cx4 : V.cell? ⟨w2.heap.size, 4, none⟩ = some (.int .i64 o.le) := gbx_cell yV 4
    clear q2 hV bV yV zV sV
    go_wp2_with (refine gwl_store TO o w2.heap.size ZV.out rfl rfl ?_; rw [HV.out])
    refine (bown_any o.bu _ (HB.out _ Q.out)).mono ?_; rintro e w4 ⟨rfl, rfl⟩
    clear cx2 cx3 cx4
    go_wp2_with fail
    refine (pdrop ((HB.out _ Q.out).ps o.bu) HN.out).mono ?_; rintro e W5 ⟨rfl, q5⟩
    obtain ⟨v5, b5, f5, r5⟩ := (HB.out _ Q.out).turn q5
    have hu : W1.heap.size ≤ w2.heap.size := Q2.out.size
    have hs := S1.out
    have hw : w2.heap.size < V.heap.size := SV.out
    have glt := GL.out
    have nb : ∀ b, w2.heap.size ≠ g b := fun b => by have := GS.out b; omega
    have X5 : EPx.Bx 49 W5 w.heap.size zeroPx := (f5.at' _ (by omega) (fun ⟨b, e⟩ => by have := GS.out b; omega)).trans X9.out
    have y5 : EO.Bx 31 W5 w2.heap.size o := (f5.at' _ hw (fun ⟨b, e⟩ => nb b e)).trans YV.out
    have c3 : W5.cell? ⟨w2.heap.size, 3, none⟩ = some (.int .i64 o.pr) := gbx_cell y5 3
    have g3 : W5.frozen? ⟨w2.heap.size, 3, none⟩ = false := gbx_fz y5 3
    have y6 : EO.Bx 31 (W5.setCell ⟨w2.heap.size, 3, none⟩ (.int .i64 p)) w2.heap.size (o.at p o.le) := gbx_put y5 rfl
    have c4 : (W5.setCell ⟨w2.heap.size, 3, none⟩ (.int .i64 p)).cell? ⟨w2.heap.size, 4, none⟩ = some (.int .i64 o.le) := gbx_cell y6 4
    have g4 : (W5.setCell ⟨w2.heap.size, 3, none⟩ (.int .i64 p)).frozen? ⟨w2.heap.size, 4, none⟩ = false := gbx_fz y6 4
    have y7 : EO.Bx 31 ((W5.setCell ⟨w2.heap.size, 3, none⟩ (.int .i64 p)).setCell ⟨w2.heap.size, 4, none⟩ (.int .i64 l)) w2.heap.size (o.at p l) := gbx_put y6 rfl
    obtain ⟨W7, hW7⟩ : ∃ W7, ((W5.setCell ⟨w2.heap.size, 3, none⟩ (.int .i64 p)).setCell ⟨w2.heap.size, 4, none⟩ (.int .i64 l)) = W7 := ⟨_, rfl⟩
    have ff : Fr (fun k => k = w2.heap.size) W5 W7 := hW7 ▸ (Fr.set (S := fun k => k = w2.heap.size) (p := ⟨w2.heap.size, 3, none⟩) rfl _).same (Fr.set (S := fun k => k = w2.heap.size) (p := ⟨w2.heap.size, 4, none⟩) rfl _)
    have RG7 := Lib.hid (gbx_rng y7)
    have nr : ∀ b k, (v5 b).ownBlock = some k → k ≠ w2.heap.size ∧ k ≠ w.heap.size := fun b k hk => by
      rcases r5 b k hk with c | c
      · have := VL.out b k c; omega
      · omega
    have h7 : Bk W7 B G g v5 (S.up o.bu (dropO (S o.bu) n)) := b5.keep ff (by omega) (fun b e => nb b e.symm) (fun b k hk e => (nr b k hk).1 e)
    have CM := Lib.hid (bcome_any (o := o.at p l) (k := 1) W7 h7 (by show InvO (!o.bu) ((S.up o.bu _) (!o.bu)); rw [Sd.up_not']; exact IV.out.inv _) ⟨OO.out.nu, OO.out.ac, HP.out, HL.out⟩ (by rw [may_at MO.out, decide_eq_false CN.out]; rfl))
    have F7 : Hid (Fr (gsB g) w W7) := Lib.hid (((Fr.below BV.out).same f5).trans ff (fun _ h => h) (fun k hk e => by omega))
    have R7 : Hid (∀ b k, (v5 b).ownBlock = some k → (v b).ownBlock = some k ∨ w.heap.size ≤ k) := Lib.hid (fun b k hk => (r5 b k hk).imp id (fun c => by omega))
    have N7 : Hid (∀ b, (v5 b).ownBlock ≠ some w.heap.size) := Lib.hid (fun b e => (nr b _ e).2 rfl)
    have X7 : Hid (EPx.Bx 49 W7 w.heap.size zeroPx) := Lib.hid ((ff.at' _ (Array.getElem?_eq_some_iff.1 X5).1 (by omega)).trans X5)
    have HW7 := Lib.hid hW7
    have S7 : Hid (w.heap.size < W7.heap.size) := Lib.hid (Array.getElem?_eq_some_iff.1 X7.out).1
    clear q5 b5 f5 r5 X5 y5 y6 y7 ff nr h7 hu hs hw glt nb hW7
    go_wp2_with ((with_reducible refine gwl_load TO w2.heap.size 0 RG7.out ?_ ?_ ?_); rfl; rfl)
    rw [HW7.out]
    refine CM.out.mono ?_; rintro e W8 ⟨x, rfl, hfl, hbk⟩
    have X8 : Hid (EPx.Bx 49 W8 w.heap.size zeroPx) := Lib.hid (by
      obtain ⟨_, _, f, _⟩ := hbk
      exact (f.at' _ S7.out (fun ⟨b, e⟩ => by have := GS.out b; omega)).trans X7.out)
    have FN := Lib.hid (fun cs => brl_end (x := x) (v := v) (w := w) EV.out hfl (bkp_comp (R := w.heap.size) HH.out F7.out R7.out N7.out hbk (Nat.le_refl _) S7.out cs))
    clear hfl hbk
    go_wp2_with (refine wl_store_px x w.heap.size X8.out rfl rfl ?_)
    refine bodyPost_ret (ret_px2 rfl _ _ w.heap.size rfl rfl (gbx_set X8.out)) rfl ?_
    exact FN.out _
end
end Go.Proofs.Ytdcjgcjnfcahkaa
