/- The program's book: Replace, walked. -/
import Derived.Test.YtdcjgcjnfcahkaaG13
namespace Go.Proofs.Ytdcjgcjnfcahkaa
open Go.RowKit Go.Shelf
set_option linter.unusedVariables false
set_option linter.unusedSimpArgs false

theorem at_put {W : World} {Y : Nat} {o : Or} (h : EO.Bx 31 W Y o) (p l : Int) : EO.Bx 31 ((W.setCell ⟨Y, 3, none⟩ (.int .i64 p)).setCell ⟨Y, 4, none⟩ (.int .i64 l)) Y (o.at p l) :=
  gbx_put (x := ⟨o.nu, o.ac, o.bu, p, o.le⟩) (gbx_put h rfl) rfl
section
variable {Pd : PdT} {zs : Array Value} {G : Nat} {g : Bool → Nat} {F : Bool → Nat → Prop} {S : Sd} {t : Nat}
set_option maxRecDepth 100000 in
set_option maxHeartbeats 8000000 in
theorem prepl_any (K : SideK Pd zs) {n p l : Int} (w : World) (h : Bp Pd w G g F S t) (iv : InvB S) (hn : U64' n) (hp : I64' p) (hl : I64' l) (ht : t < 1000000000) :
    Calls Try.prog 20 #[.pointer (some ⟨G, 0, none⟩), .int .u64 n, .int .i64 p, .int .i64 l] w fun e w' => ∃ x : Px, e = .returned (.tuple #[.agg (EPx.cells x).toArray, .int .i64 (replA S n p l)]) ∧ x.fi = (replP S n p l).fi ∧ x.lf = (replP S n p l).lf ∧ BpP Pd w G g F (replS S n p l) (t + 1) x (replP S n p l).td (replP S n p l).gn w' := by
  have hz := zero_or
  have hpx := zero_px
  have KH := Lib.hid K
  obtain ⟨W1, hW1, b1, x1, s1⟩ := px_new w
  have h1 := h.below K b1
  have PA := Lib.hid (pbget_any K W1 h1 hn)
  have HW := Lib.hid hW1
  have HH := Lib.hid h
  have H1 := Lib.hid h1
  have X1 := Lib.hid x1
  have B1 := Lib.hid b1
  have IV := Lib.hid iv
  have HN := Lib.hid hn
  have HL := Lib.hid hl
  have HP := Lib.hid hp
  have hbu := h.bu K
  clear K h h1 x1 b1 hW1 s1 iv hn
  rcases take_cases S n with ⟨e1, e2, e3⟩ | ⟨o, e1, e2, e3⟩
  · obtain ⟨r1, r2, r3⟩ := repl_none (p := p) (l := l) e1
    rw [e2, e3] at PA
    rw [r1, r2, r3]
    clear e1 e2 e3 r1 r2 r3
    go_enter Try.func20, Try.ntmps20
    go_wp2_with fail
    rw [HW.out]
    refine PA.out.mono ?_; rintro e w2 ⟨rfl, q2⟩
    obtain ⟨V, hV, bV, yV, zV, sV⟩ := put_or zeroOr q2
    have HV := Lib.hid hV
    have ZV := Lib.hid zV
    have XV := Lib.hid (gbx_below X1.out bV)
    have BV := Lib.hid (B1.out.trans (bV.mono B1.out.size))
    clear q2 hV bV yV zV sV
    go_wp2_with (first | (refine gwl_store TO zeroOr w2.heap.size ZV.out rfl rfl ?_; rw [HV.out]) | (refine wl_build0_px ?_) | (refine wl_store_px zeroPx w.heap.size XV.out rfl rfl ?_))
    exact bodyPost_ret (ret_px2 rfl _ _ w.heap.size rfl rfl (gbx_set XV.out)) rfl ⟨zeroPx, rfl, rfl, rfl, bpp_none KH.out HH.out (below_row0 BV.out (Nat.le_refl _)) _ (Nat.le_succ _)⟩
  · rw [e2, e3] at PA
    clear e2 e3
    have hm := ((IV.out.inv o.bu).may o (IV.out.own e1).1).1
    have oko := (IV.out.inv o.bu).ok o (IV.out.own e1).1
    have OKA : Hid (o.at p l).ok := Lib.hid ⟨oko.nu, oko.ac, hp, hl⟩
    have MY := Lib.hid fun W => KH.out.may (w := W) OKA.out
    rw [may_at hm] at MY
    have KP : (p == o.pr) = false ∨ ((p == o.pr) = true ∧ decide (l ≤ o.le) = false) ∨ ((p == o.pr) = true ∧ decide (l ≤ o.le) = true) := by
      cases c1 : (p == o.pr)
      · exact .inl rfl
      · cases c2 : decide (l ≤ o.le)
        · exact .inr (.inl ⟨rfl, rfl⟩)
        · exact .inr (.inr ⟨rfl, rfl⟩)
    by_cases ca : p < 1 ∨ 10000000 < p ∨ l < 1 ∨ 1000000 < l
    · obtain ⟨r1, r2, r3⟩ := repl_arg e1 ca
      rw [r1, r2, r3]
      rw [decide_eq_true ca] at MY
      clear r1 r2 r3 e1 hm oko ca
      rcases KP with c1 | ⟨c1, c2⟩ | ⟨c1, c2⟩
      all_goals
        go_enter Try.func20, Try.ntmps20
        go_wp2_with fail
        rw [HW.out]
        refine PA.out.mono ?_; rintro e w2 ⟨rfl, q2⟩
        obtain ⟨V, hV, bV, yV, zV, sV⟩ := put_or o q2
        have HV := Lib.hid hV
        have ZV := Lib.hid zV
        have hY : W1.heap.size ≤ w2.heap.size := q2.size
        have hY1 := B1.out.size
        have bZ : Below W1.heap.size W1 ((V.setCell ⟨w2.heap.size, 3, none⟩ (.int .i64 p)).setCell ⟨w2.heap.size, 4, none⟩ (.int .i64 l)) := (bV.setCell hY _).setCell hY _
        have v3 : V.cell? ⟨w2.heap.size, 3, none⟩ = some (.int .i64 o.pr) := gbx_cell yV 3
        have v4 : V.cell? ⟨w2.heap.size, 4, none⟩ = some (.int .i64 o.le) := gbx_cell yV 4
        have f3 : V.frozen? ⟨w2.heap.size, 3, none⟩ = false := gbx_fz yV 3
        have f4 : V.frozen? ⟨w2.heap.size, 4, none⟩ = false := gbx_fz yV 4
        have XZ := Lib.hid (gbx_below X1.out bZ)
        have RGZ := Lib.hid (gbx_rng (at_put yV p l))
        have BZ := Lib.hid (B1.out.trans (bZ.mono B1.out.size))
        clear q2 hV bV yV zV sV bZ
        go_wp2_with (first | (refine gwl_store TO o w2.heap.size ZV.out rfl rfl ?_; rw [HV.out]) | ((with_reducible refine gwl_load TO w2.heap.size 0 RGZ.out ?_ ?_ ?_); rfl; rfl))
        refine (MY.out _).mono ?_; rintro e w5 ⟨rfl, q5⟩
        have X5 := Lib.hid (gbx_below XZ.out q5)
        have B5 := Lib.hid (BZ.out.trans (q5.mono BZ.out.size))
        clear q5
        go_wp2_with (first | (refine wl_build0_px ?_) | (refine wl_store_px zeroPx w.heap.size X5.out rfl rfl ?_))
        exact bodyPost_ret (ret_px2 rfl _ _ w.heap.size rfl rfl (gbx_set X5.out)) rfl ⟨zeroPx, rfl, rfl, rfl, bpp_none KH.out HH.out (below_row0 B5.out (Nat.le_refl _)) _ (Nat.le_succ _)⟩
    · rw [decide_eq_false ca] at MY
      by_cases ck : p = o.pr ∧ l ≤ o.le
      · obtain ⟨r1, r2, r3⟩ := repl_keep e1 ca ck
        rw [r1, r2, r3]
        have c1 : (p == o.pr) = true := beq_iff_eq.2 ck.1
        have c2 : decide (l ≤ o.le) = true := decide_eq_true ck.2
        clear r1 r2 r3 e1 hm oko ca ck KP
        obtain ⟨bo, hbo⟩ : ∃ bo, o.bu = bo := ⟨_, rfl⟩
        have HBO := Lib.hid hbo
        rw [hbo]
        clear hbo
        go_enter Try.func20, Try.ntmps20
        go_wp2_with fail
        rw [HW.out]
        refine PA.out.mono ?_; rintro e w2 ⟨rfl, q2⟩
        obtain ⟨V, hV, bV, yV, zV, sV⟩ := put_or o q2
        have HV := Lib.hid hV
        have ZV := Lib.hid zV
        have hY : W1.heap.size ≤ w2.heap.size := q2.size
        have bZ : Below W1.heap.size W1 ((V.setCell ⟨w2.heap.size, 3, none⟩ (.int .i64 p)).setCell ⟨w2.heap.size, 4, none⟩ (.int .i64 l)) := (bV.setCell hY _).setCell hY _
        have v3 : V.cell? ⟨w2.heap.size, 3, none⟩ = some (.int .i64 o.pr) := gbx_cell yV 3
        have v4 : V.cell? ⟨w2.heap.size, 4, none⟩ = some (.int .i64 o.le) := gbx_cell yV 4
        have f3 : V.frozen? ⟨w2.heap.size, 3, none⟩ = false := gbx_fz yV 3
        have f4 : V.frozen? ⟨w2.heap.size, 4, none⟩ = false := gbx_fz yV 4
        have BZ := Lib.hid bZ
        have yZ := at_put yV p l
        have YZ := Lib.hid yZ
        have RGZ := Lib.hid (gbx_rng yZ)
        clear q2 hV bV yV zV sV bZ yZ
        go_wp2_with (first | (refine gwl_store TO o w2.heap.size ZV.out rfl rfl ?_; rw [HV.out]) | ((with_reducible refine gwl_load TO w2.heap.size 0 RGZ.out ?_ ?_ ?_); rfl; rfl))
        refine (MY.out _).mono ?_; rintro e w5 ⟨rfl, q5⟩
        have y5 := gbx_below YZ.out q5
        have v2 : w5.cell? ⟨w2.heap.size, 2, none⟩ = some (.bool bo) := by rw [← HBO.out]; exact gbx_cell y5 2
        have b5 := BZ.out.trans (q5.mono BZ.out.size)
        have H5 := Lib.hid (H1.out.below KH.out b5)
        have X5 := Lib.hid (gbx_below X1.out b5)
        have B5 := Lib.hid (B1.out.trans (b5.mono B1.out.size))
        have S5 : Hid (w.heap.size < w5.heap.size) := Lib.hid (Array.getElem?_eq_some_iff.1 X5.out).1
        clear q5 y5 b5 v3 v4 f3 f4 hY
        go_wp2_with fail
        refine (pside_any bo H5.out).mono ?_; rintro e w6 ⟨rfl, rfl⟩
        go_wp2_with fail
        refine (KH.out.low (H5.out.pd bo) HN.out HL.out).mono ?_; rintro e w7 ⟨rfl, q7⟩
        have X7 : Hid (EPx.Bx 49 w7 w.heap.size zeroPx) := Lib.hid (by
          obtain ⟨_, _, f, _⟩ := q7
          exact stays f X5.out (fun c => by have := HH.out.flt KH.out bo c; omega))
        have N7 := Lib.hid (H5.out.turn KH.out (Nat.le_refl _) q7)
        clear q7
        go_wp2_with (first | (refine wl_build3_px l rfl ?_) | (refine wl_store_px { zeroPx with lf := l } w.heap.size X7.out rfl rfl ?_))
        refine bodyPost_ret (ret_px2 rfl _ _ w.heap.size rfl rfl (gbx_set X7.out)) rfl ⟨{ zeroPx with lf := l }, rfl, rfl, rfl, ?_⟩
        obtain ⟨F', k1, k2, k3⟩ := bpn_res KH.out HH.out B5.out S5.out N7.out (cs := (EPx.cells { zeroPx with lf := l }).toArray)
        exact ⟨F', k1.more KH.out (Nat.le_succ _), k2, k3, ⟨gown_nil _ _, gown_nil _ _⟩, fun b k _ e => by rcases e with e | e <;> cases e⟩
      · obtain ⟨r1, r0, r2, r3⟩ := repl_new IV.out e1 ca ck
        rw [r1, r2, r3]
        have KP2 : (p == o.pr) = false ∨ ((p == o.pr) = true ∧ decide (l ≤ o.le) = false) := by
          rcases KP with c | c | ⟨c1, c2⟩
          · exact .inl c
          · exact .inr c
          · exact absurd ⟨beq_iff_eq.1 c1, of_decide_eq_true c2⟩ ck
        have PD := Lib.hid fun (W : World) (q : Bp Pd W G g F S t) => KH.out.drop (q.pd o.bu) HN.out
        have PP := Lib.hid fun (W : World) (F5 : Bool → Nat → Prop) (q : Bp Pd W G g F5 (S.up o.bu (dropO (S o.bu) n)) t) => pplace_any KH.out (k := 1) W q OKA.out ht
        rw [r0] at PP
        clear r1 r2 r3 r0 e1 hm oko ca ck KP
        obtain ⟨bo, hbo⟩ : ∃ bo, o.bu = bo := ⟨_, rfl⟩
        have HBO := Lib.hid hbo
        rw [hbo] at PD PP ⊢
        clear hbo
        obtain ⟨T, hT⟩ : ∃ T, placeS (S.up bo (dropO (S bo) n)) (o.at p l) 1 = T := ⟨_, rfl⟩
        obtain ⟨PX, hPX⟩ : ∃ PX, placeP (S.up bo (dropO (S bo) n)) (o.at p l) 1 = PX := ⟨_, rfl⟩
        rw [hT, hPX] at PP ⊢
        clear hT hPX
        rcases KP2 with c1 | ⟨c1, c2⟩
        all_goals
          go_enter Try.func20, Try.ntmps20
          go_wp2_with fail
          rw [HW.out]
          refine PA.out.mono ?_; rintro e w2 ⟨rfl, q2⟩
          obtain ⟨V, hV, bV, yV, zV, sV⟩ := put_or o q2
          have HV := Lib.hid hV
          have ZV := Lib.hid zV
          have hY : W1.heap.size ≤ w2.heap.size := q2.size
          have HY := Lib.hid hY
          have bZ : Below W1.heap.size W1 ((V.setCell ⟨w2.heap.size, 3, none⟩ (.int .i64 p)).setCell ⟨w2.heap.size, 4, none⟩ (.int .i64 l)) := (bV.setCell hY _).setCell hY _
          have v3 : V.cell? ⟨w2.heap.size, 3, none⟩ = some (.int .i64 o.pr) := gbx_cell yV 3
          have v4 : V.cell? ⟨w2.heap.size, 4, none⟩ = some (.int .i64 o.le) := gbx_cell yV 4
          have f3 : V.frozen? ⟨w2.heap.size, 3, none⟩ = false := gbx_fz yV 3
          have f4 : V.frozen? ⟨w2.heap.size, 4, none⟩ = false := gbx_fz yV 4
          have BZ := Lib.hid bZ
          have yZ := at_put yV p l
          have YZ := Lib.hid yZ
          have RGZ := Lib.hid (gbx_rng yZ)
          clear q2 hV bV yV zV sV bZ yZ
          go_wp2_with (first | (refine gwl_store TO o w2.heap.size ZV.out rfl rfl ?_; rw [HV.out]) | ((with_reducible refine gwl_load TO w2.heap.size 0 RGZ.out ?_ ?_ ?_); rfl; rfl))
          refine (MY.out _).mono ?_; rintro e w5 ⟨rfl, q5⟩
          have y5 := gbx_below YZ.out q5
          have Y5 := Lib.hid y5
          have v2 : w5.cell? ⟨w2.heap.size, 2, none⟩ = some (.bool bo) := by rw [← HBO.out]; exact gbx_cell y5 2
          have b5 := BZ.out.trans (q5.mono BZ.out.size)
          have H5 := Lib.hid (H1.out.below KH.out b5)
          have X5 := Lib.hid (gbx_below X1.out b5)
          have B5 := Lib.hid (B1.out.trans (b5.mono B1.out.size))
          have S5 : Hid (w.heap.size < W1.heap.size ∧ W1.heap.size ≤ w5.heap.size) := Lib.hid ⟨(Array.getElem?_eq_some_iff.1 X1.out).1, b5.size⟩
          clear q5 y5 b5 v3 v4 f3 f4 hY
          go_wp2_with fail
          refine (pside_any bo H5.out).mono ?_; rintro e w6 ⟨rfl, rfl⟩
          go_wp2_with fail
          refine (PD.out _ H5.out).mono ?_; rintro e w7 ⟨rfl, q7⟩
          have xx : EPx.Bx 49 w7 w.heap.size zeroPx ∧ EO.Bx 31 w7 w2.heap.size (o.at p l) := by
            obtain ⟨_, _, f, _⟩ := q7
            exact ⟨stays f X5.out (fun c => by have := HH.out.flt KH.out bo c; omega), stays f Y5.out (fun c => by have := HH.out.flt KH.out bo c; have := HY.out; have := S5.out; omega)⟩
          have X7 := Lib.hid xx.1
          have RG7 := Lib.hid (gbx_rng xx.2)
          obtain ⟨F7, n1, n2, n3⟩ := H5.out.turn KH.out (Nat.le_refl _) q7
          have N1 := Lib.hid n1
          have N2 := Lib.hid n2
          have N3 := Lib.hid n3
          clear q7 xx n1 n2 n3
          go_wp2_with ((with_reducible refine gwl_load TO w2.heap.size 0 RG7.out ?_ ?_ ?_); rfl; rfl)
          refine (PP.out w7 F7 N1.out).mono ?_; rintro e w8 ⟨x, rfl, hx1, hx2, hx3⟩
          have hR7 : ∀ b, ¬ F7 b w.heap.size := fun b c => by
            rcases N3.out b _ c with d | d
            · have := HH.out.flt KH.out b d; omega
            · have := S5.out; omega
          have s7 := N2.out.size
          have s5 := S5.out
          have X8 : Hid (EPx.Bx 49 w8 w.heap.size zeroPx) := Lib.hid (by
            obtain ⟨F8, _, f, _⟩ := hx3
            exact stays f X7.out (fun ⟨b, c⟩ => hR7 b c))
          have FIN := Lib.hid (bpp_comp (cs := (EPx.cells x).toArray) KH.out HH.out ((Fr.below B5.out).same N2.out) (fun b k c => (N3.out b k c).imp id fun d => by omega) hx3 (Nat.le_refl _) (by omega) hR7)
          have HX1 := Lib.hid hx1
          have HX2 := Lib.hid hx2
          clear hx1 hx2 hx3 hR7 s7 s5
          go_wp2_with (refine wl_store_px x w.heap.size X8.out rfl rfl ?_)
          exact bodyPost_ret (ret_px2 rfl _ _ w.heap.size rfl rfl (gbx_set X8.out)) rfl ⟨x, rfl, HX1.out, HX2.out, FIN.out⟩
end
end Go.Proofs.Ytdcjgcjnfcahkaa
