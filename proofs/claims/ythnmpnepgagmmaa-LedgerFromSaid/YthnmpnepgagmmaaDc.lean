/- The document's ledger: put (by genDc.py). -/
import Derived.Test.YthnmpnepgagmmaaDe
import Derived.Test.YthnmpnepgagmmaaMb
namespace Go.Proofs.Ythnmpnepgagmmaa
open Go.RowKit Go.Shelf
set_option linter.unusedVariables false
set_option linter.unusedSimpArgs false

theorem bx_grown9 {α : Type} {E : Elt α} {te : TypeId} {w W : World} {v : Value} {g : Nat} {x : α} (h : E.Bx te w g x) (gr : w.grownBy W v.ownBlock) (hv : ∀ k, v.ownBlock = some k → k < g) : E.Bx te W g x :=
  (gr.block g (Array.getElem?_eq_some_iff.1 h).1 (fun e => absurd (hv g e.symm) (Nat.lt_irrefl g))).trans h
theorem intro_uD {T : Array Value} {D : List Deferred} {F : (Nat → Value) → Array Value} (h : F (fun i => T.getD i undef) = T) : ∃ u : Nat → Value, (Act.mk T D) = Act.mk (F u) D := ⟨_, by rw [h]⟩
theorem wp_midD {P : Program} {Q : Exit → Act → World → Prop} {a : Act} {w : World} {x y : Code} (Mid : Act → World → Prop) (h1 : ∀ K : Act → World → Prop, (∀ a w, Mid a w → K a w) → x.wp P (Exit.then K Q) a w) (h2 : ∀ a w, Mid a w → y.wp P Q a w) : (Code.seq x y).wp P Q a w :=
  wp_seq_k fun K hK => h1 K fun a w h => hK a w (h2 a w h)
theorem measD (nv j : Nat) (h : j < nv) : nv - (intOf (.int .i64 ((j : Int) + 1))).toNat < nv - (intOf (.int .i64 (j : Int))).toNat := by
  simp only [intOf]; omega
theorem Rl.setA9 {w U : World} {B g N : Nat} {va vh v' : Value} {L : Lg} {l' : List Ac} (h : Rl w B g va vh L) (q : Below w.heap.size w U) (o : EA.Own 33 U N v' l') (hN : w.heap.size ≤ N) : Rl (U.setCell ⟨g, 1, none⟩ v') B g v' vh ⟨L.fund, l', L.hl⟩ ∧ Fr (fun k => k = g) w (U.setCell ⟨g, 1, none⟩ v') ∧ ∀ k, v'.ownBlock = some k → w.heap.size ≤ k := by
  have h2 := h.below q
  have hg := h.gl
  have hge := h.ge
  have na : ∀ k, v'.ownBlock = some k → ¬ g = k := fun k e c => by have := (gown_lt o e).1; omega
  refine ⟨⟨heap_setCell_same U g 1 _ _ _ h2.blk, gown_same (gown_low o (by omega)) (fun k hk => heap_setCell_other U _ k _ (fun e => na k hk e.symm)), gown_same h2.oh (fun k hk => heap_setCell_other U _ k _ (fun e => h2.apartH k hk e)), h.ge⟩, (Fr.below q).same (Fr.set (S := fun k => k = g) rfl _), fun k e => Nat.le_trans hN (gown_lt o e).1⟩
set_option maxRecDepth 100000 in
set_option maxHeartbeats 16000000 in
theorem rput9 {B g : Nat} {va vh : Value} {L : Lg} (a : Ac) (w : World) (h : Rl w B g va vh L) (hl : L.al.length ≤ 5000) :
    Calls Try.prog 33 #[.pointer (some ⟨g, 0, none⟩), .agg (EA.cells a).toArray] w fun e w' => e = .returned (.tuple #[]) ∧ ∃ v', Rl w' B g v' vh ⟨L.fund, putL L.al a, L.hl⟩ ∧ Fr (fun k => k = g) w w' ∧ ∀ k, v'.ownBlock = some k → w.heap.size ≤ k := by
  have hz := zero_ac
  obtain ⟨w1, hw1⟩ : ∃ w1, w.alloc (.cells (EA.cells a).toArray 33) = w1 := ⟨_, rfl⟩
  have xa : EA.Bx 33 w1 w.heap.size a := by rw [← hw1]; exact gbx_new w a
  have b1 : Below w.heap.size w w1 := by rw [← hw1]; exact below_new w _
  have hs1 : w1.heap.size = w.heap.size + 1 := by rw [← hw1]; simp
  have HH := Lib.hid h
  have B1 := Lib.hid b1
  have HW := Lib.hid hw1
  have S1 : Hid (w.heap.size < w1.heap.size ∧ g < w.heap.size) := Lib.hid ⟨by omega, h.gl⟩
  have XA := Lib.hid fun (U : World) (q : Below w1.heap.size w1 U) => gbx_below xa q
  obtain ⟨A, c, rfl, _⟩ := gown_form h.oa
  obtain ⟨ls, hls⟩ : ∃ ls, L.al = ls := ⟨_, rfl⟩
  have k1 := (h.below b1).c1
  have o1 := (h.below b1).oa
  rw [hls] at k1 o1 hl
  obtain ⟨m, hm⟩ : ∃ m, ls.length = m := ⟨_, rfl⟩
  rw [hm] at k1 o1 hl
  have FZ := Lib.hid fun (U : World) (q : Below w1.heap.size w1 U) => ((h.below b1).below q).fz 1
  have KK := Lib.hid fun (U : World) (q : Below w1.heap.size w1 U) => (show U.cell? ⟨g, 1, none⟩ = some (.slice A m c) from cell_below k1 q (Nat.le_refl _))
  have HO := Lib.hid fun (U : World) (q : Below w1.heap.size w1 U) => gown_below o1 q
  have HL := Lib.hid hm
  have POST := Lib.hid fun (U : World) (v' : Value) (l' : List Ac) (q : Below w1.heap.size w1 U) (o : EA.Own 33 U w1.heap.size v' l') => Rl.setA9 h (b1.trans (q.mono (Nat.le_of_lt S1.out.1))) o (Nat.le_of_lt S1.out.1)
  obtain ⟨fin, hfin⟩ : ∃ fin, putL L.al a = fin := ⟨_, rfl⟩
  have HFIN := Lib.hid hfin
  have ST : Hid (layF (geA a) (neA a) a ls false = fin) := Lib.hid (by rw [← hfin, hls]; rfl)
  clear h hls hm k1 o1 xa b1 hw1 hs1 hfin
  go_enter Try.func33, Try.ntmps33
  go_wp2_with (rw [HW.out])
  go_loopw [4, 5, 6] (fun o d i wr => ∃ (k : Nat) (out : List Ac) (dd : Bool), k ≤ m ∧ i = .int .i64 k ∧ d = .bool dd ∧ EA.Own 33 wr w1.heap.size o out ∧ Below w1.heap.size w1 wr ∧ out ++ layF (geA a) (neA a) a (ls.drop k) dd = fin ∧ out.length ≤ 2 * k) (fun _ _ i _ => m - (intOf i).toNat)
  case atStart => exact ⟨0, [], false, Nat.zero_le _, rfl, rfl, gown_nil _ _, Below.refl _ _, by simpa using ST.out, Nat.le_refl _⟩
  case round =>
    obtain ⟨k, out, dd, hk, rfl, rfl, hO, hB, hE, hlen⟩ := hrel
    have OW := Lib.hid hO
    have HB := Lib.hid hB
    have LN := Lib.hid hlen
    have EE := Lib.hid hE
    have kw := KK.out _ hB
    have fw := FZ.out _ hB
    obtain ⟨A1, n1, c1, rfl⟩ := gown_any hO
    clear hO hB hlen hE
    by_cases hlt : k < m
    case neg =>
      obtain rfl : k = m := by omega
      have ed : ls.drop k = [] := List.drop_of_length_le (by rw [HL.out]; exact Nat.le_refl _)
      cases dd with
      | true =>
        have E : Hid (out = fin) := Lib.hid (by rw [← EE.out, ed, lay_nil]; simp)
        clear ed
        go_wp2_with fail
        go_end0
        have p := POST.out _ _ _ HB.out OW.out
        rw [E.out, ← HFIN.out] at p
        exact ⟨rfl, _, p⟩
      | false =>
        have E : Hid (out ++ [a] = fin) := Lib.hid (by rw [← EE.out, ed, lay_nil]; simp)
        clear ed
        have RA := Lib.hid (gbx_rng (XA.out _ HB.out))
        obtain ⟨W3, hW3⟩ : ∃ W3, wr.alloc (.cells (EA.cells a).toArray 33) = W3 := ⟨_, rfl⟩
        have RD : Hid (EA.Rd W3 (some ⟨wr.heap.size, 0, none⟩) 1 [a]) := Lib.hid (by rw [← hW3]; exact gbx_rd (gbx_new (E := EA) wr _))
        have B3 : Hid (Below wr.heap.size wr W3) := Lib.hid (by rw [← hW3]; exact below_new _ _)
        have O3 := Lib.hid (gown_below OW.out B3.out)
        have HW3 := Lib.hid hW3
        clear hW3
        go_wp2_with (first | ((with_reducible refine gwl_load TA w.heap.size 0 RA.out ?_ ?_ ?_); rfl; rfl) | (refine gwl_bs TA (s := a) rfl (fill_ac _) ?_ (by decide); rw [HW3.out]) | (at_builtin; refine gpl_app TA rfl (.tmp 48) (.tmp 50) rfl w1.heap.size (.slice A1 n1 c1) out rfl O3.out _ 1 1 [a] rfl RD.out (fun e => by cases e) (by have := LN.out; omega) (Nat.le_trans HB.out.size B3.out.size) ?_; intro v4 w4 o4 g4 _; have O4 := Lib.hid o4; have Q4 := Lib.hid ((HB.out.trans (B3.out.mono HB.out.size)).grown g4 (Nat.le_trans HB.out.size B3.out.size) (fun j hj => (gown_lt OW.out hj).1)); have kw4 := KK.out _ Q4.out; have fw4 := FZ.out _ Q4.out; clear o4 g4; obtain ⟨A4, n4, c4, rfl⟩ := gown_any O4.out))
        go_end0
        have p := POST.out _ _ _ Q4.out O4.out
        rw [E.out, ← HFIN.out] at p
        exact ⟨rfl, _, p⟩
    case pos =>
      have hd : decide ((k : Int) < m) = true := decide_eq_true (by omega)
      obtain ⟨x, hx⟩ : ∃ x, ls[k]? = some x := ⟨ls[k]'(by rw [HL.out]; exact hlt), List.getElem?_eq_getElem _⟩
      have ED : Hid (ls.drop k = x :: ls.drop (k + 1)) := Lib.hid (by rw [← List.getElem_cons_drop (i := k) (h := by have := HL.out; omega), (List.getElem?_eq_some_iff.1 hx).2])
      have HQ := Lib.hid (HO.out _ HB.out)
      obtain ⟨b, c', eb⟩ := gown_slot HQ.out (by have := HL.out; omega)
      injection eb with e1 _ e2
      subst e1 e2
      have hcap := gown_cap HQ.out
      obtain ⟨b', o', e', rg⟩ := grd_rng (gown_rd HQ.out) hx
      cases e'
      have eN : EA.N = 4 := rfl
      rw [eN, Nat.zero_add] at rg
      have RG := Lib.hid rg
      have X1 := Lib.hid (gbx_new (E := EA) (te := 33) wr zeroAc)
      obtain ⟨W2, hW2⟩ : ∃ W2, (wr.alloc (.cells (EA.cells zeroAc).toArray 33)).setRow wr.heap.size (EA.cells x).toArray = W2 := ⟨_, rfl⟩
      have Y2 : Hid (EA.Bx 33 W2 wr.heap.size x) := Lib.hid (by rw [← hW2]; exact gbx_set X1.out)
      have B2 : Hid (Below wr.heap.size wr W2) := Lib.hid (by rw [← hW2]; exact below_row0 (below_new _ _) (Nat.le_refl _))
      have S2 : Hid (wr.heap.size < W2.heap.size) := Lib.hid (Array.getElem?_eq_some_iff.1 Y2.out).1
      have Q2 := Lib.hid (HB.out.trans (B2.out.mono HB.out.size))
      have O2 := Lib.hid (gown_below OW.out B2.out)
      have XA2 := Lib.hid (XA.out _ Q2.out)
      have RA2 := Lib.hid (gbx_rng XA2.out)
      have RX2 := Lib.hid (gbx_rng Y2.out)
      have kx0 : W2.cell? ⟨wr.heap.size, 0, none⟩ = some (.int .u32 x.nu) := gbx_cell Y2.out 0
      have ka0 : W2.cell? ⟨w.heap.size, 0, none⟩ = some (.int .u32 a.nu) := gbx_cell XA2.out 0
      have HW2 := Lib.hid hW2
      clear hx eN rg hW2
      apply wp_seq_k; intro K1 h1; have H1 := Lib.hid h1; clear h1
      go_wp2_with fail
      refine H1.out _ _ ?_
      clear H1
      apply wp_seq_k; intro K3 h3; have H3 := Lib.hid h3; clear h3
      refine wp_block ?_
      apply wp_seq_k; intro K5 h5; have H5 := Lib.hid h5; clear h5
      go_wp2_with (first | ((with_reducible refine gwl_load TA b (k * 4) RG.out ?_ ?_ ?_); rfl; rfl) | (refine gwl_store TA x wr.heap.size X1.out rfl rfl ?_; rw [HW2.out]))
      refine H5.out _ _ ?_
      clear H5
      refine wp_midD (fun a' wr' => ∃ A5 n5 c5, EA.Own 33 wr' w1.heap.size (.slice A5 n5 c5) (out ++ (if (!dd && geA a x) = true then [a] else [])) ∧ Below w1.heap.size w1 wr' ∧ EA.Bx 33 wr' wr.heap.size x ∧ ∃ u : Nat → Value, a' = { tmps := #[.pointer (some ⟨g, 0, none⟩), .agg (EA.cells a).toArray, undef, .pointer (some ⟨w.heap.size, 0, none⟩), .slice A5 n5 c5, .bool (dd || geA a x), .int .i64 k, .pointer (some ⟨wr.heap.size, 0, none⟩), u 8, u 9, u 10, u 11, u 12, u 13, u 14, u 15, u 16, u 17, u 18, u 19, u 20, u 21, u 22, u 23, u 24, u 25, u 26, u 27, u 28, u 29, u 30, u 31, u 32, u 33, u 34, u 35, u 36, u 37, u 38, u 39, u 40, u 41, u 42, u 43, u 44, u 45, undef, undef, undef, undef, undef, undef, undef, undef, undef, undef], defers := [] }) ?ifX ?tlX
      case ifX =>
        intro KM hKM; have HKM := Lib.hid hKM; clear hKM
        cases dd
        rotate_left
        · go_wp2_with fail
          refine HKM.out _ _ ?_
          exact ⟨A1, n1, c1, by simpa using O2.out, Q2.out, Y2.out, intro_uD rfl⟩
        rcases Int.lt_or_le x.nu a.nu with hc | hc
        · have f1 : decide (a.nu ≤ x.nu) = false := by simp; omega
          have hge : geA a x = false := by unfold geA; simp; omega
          simp only [hge] at HKM
          go_wp2_with fail
          refine HKM.out _ _ ?_
          exact ⟨A1, n1, c1, by simpa using O2.out, Q2.out, Y2.out, intro_uD rfl⟩
        · have f1 : decide (a.nu ≤ x.nu) = true := by simp; omega
          have hge : geA a x = true := by unfold geA; simp; omega
          simp only [hge] at HKM
          obtain ⟨W3, hW3⟩ : ∃ W3, W2.alloc (.cells (EA.cells a).toArray 33) = W3 := ⟨_, rfl⟩
          have RD3 : Hid (EA.Rd W3 (some ⟨W2.heap.size, 0, none⟩) 1 [a]) := Lib.hid (by rw [← hW3]; exact gbx_rd (gbx_new (E := EA) W2 _))
          have B3 : Hid (Below W2.heap.size W2 W3) := Lib.hid (by rw [← hW3]; exact below_new _ _)
          have O3 := Lib.hid (gown_below O2.out B3.out)
          have Y3 := Lib.hid (gbx_below Y2.out B3.out)
          have Q3 := Lib.hid (Q2.out.trans (B3.out.mono Q2.out.size))
          have HW3 := Lib.hid hW3
          clear hW3
          go_wp2_with (first | ((with_reducible refine gwl_load TA w.heap.size 0 RA2.out ?_ ?_ ?_); rfl; rfl) | (refine gwl_bs TA (s := a) rfl (fill_ac _) ?_ (by decide); rw [HW3.out]) | (at_builtin; refine gpl_app TA rfl (.tmp 33) (.tmp 35) rfl w1.heap.size (.slice A1 n1 c1) out rfl O3.out _ 1 1 [a] rfl RD3.out (fun e => by cases e) (by have := LN.out; omega) Q3.out.size ?_; intro v4 w4 o4 g4 _; have O4 := Lib.hid o4; have Q4 := Lib.hid (Q3.out.grown g4 Q3.out.size (fun j hj => (gown_lt O2.out hj).1)); have Y4 := Lib.hid (bx_grown9 Y3.out g4 (fun j hj => (gown_lt OW.out hj).2)); clear o4 g4; obtain ⟨A4, n4, c4, rfl⟩ := gown_any O4.out))
          refine HKM.out _ _ ?_
          exact ⟨A4, n4, c4, by simpa using O4.out, Q4.out, Y4.out, intro_uD rfl⟩
      case tlX =>
        rintro a1 wr1 ⟨A5, n5, c5, hO5, hB5, hY5, u, rfl⟩
        have O5 := Lib.hid hO5
        have Q5 := Lib.hid hB5
        have Y5 := Lib.hid hY5
        have RX5 := Lib.hid (gbx_rng hY5)
        have XA5 := Lib.hid (XA.out _ hB5)
        have kx0 : wr1.cell? ⟨wr.heap.size, 0, none⟩ = some (.int .u32 x.nu) := gbx_cell hY5 0
        have ka0 : wr1.cell? ⟨w.heap.size, 0, none⟩ = some (.int .u32 a.nu) := gbx_cell XA5.out 0
        have L5 : Hid ((out ++ (if (!dd && geA a x) = true then [a] else [])).length ≤ 2 * k + 1) := Lib.hid (by have := LN.out; rw [List.length_append]; split <;> simp <;> omega)
        have E5 : Hid ((out ++ (if (!dd && geA a x) = true then [a] else [])) ++ ((if neA a x = true then [x] else []) ++ layF (geA a) (neA a) a (ls.drop (k + 1)) (dd || geA a x)) = fin) := Lib.hid (by rw [← EE.out, ED.out, lay_cons, List.append_assoc])
        obtain ⟨o5, ho5⟩ : ∃ o5, out ++ (if (!dd && geA a x) = true then [a] else []) = o5 := ⟨_, rfl⟩
        obtain ⟨d5, hd5⟩ : ∃ d5, (dd || geA a x) = d5 := ⟨_, rfl⟩
        rw [ho5] at O5 L5 E5
        rw [hd5] at E5 ⊢
        clear hO5 hB5 hY5 ho5 hd5 EE ED LN OW HB O2 Q2 Y2 S2 X1 HW2 RG RA2 RX2 XA2
        by_cases hc : x.nu = a.nu
        · have f3 : (x.nu != a.nu) = false := by simp; omega
          have hne : neA a x = false := by unfold neA; simp; omega
          go_wp2_with fail
          refine H3.out _ _ ?_
          go_wp2_with fail
          go_roundw
          case rel => exact ⟨k + 1, o5, d5, hlt, by go_num, rfl, O5.out, Q5.out, by have := E5.out; rw [hne] at this; simpa using this, by have := L5.out; simp; omega⟩
          case measure => first | exact measD _ _ hlt | (simp [intOf]; omega)
        · have f3 : (x.nu != a.nu) = true := by simp; omega
          have hne : neA a x = true := by unfold neA; simp; omega
          have RD6 := Lib.hid (gbx_rd (gbx_new (E := EA) (te := 33) wr1 x))
          have B6 := Lib.hid (below_new wr1 (.cells (EA.cells x).toArray 33))
          have O6 := Lib.hid (gown_below O5.out B6.out)
          have Q6 := Lib.hid (Q5.out.trans (B6.out.mono Q5.out.size))
          go_wp2_with (first | ((with_reducible refine gwl_load TA wr.heap.size 0 RX5.out ?_ ?_ ?_); rfl; rfl) | (refine gwl_bs TA (s := x) rfl (fill_ac _) ?_ (by decide)) | (at_builtin; refine gpl_app TA rfl (.tmp 42) (.tmp 44) rfl w1.heap.size (.slice A5 n5 c5) o5 rfl O6.out _ 1 1 [x] rfl RD6.out (fun e => by cases e) (by have := L5.out; omega) Q6.out.size ?_; intro v7 w7 o7 g7 _; have O7 := Lib.hid o7; have Q7 := Lib.hid (Q6.out.grown g7 Q6.out.size (fun j hj => (gown_lt O5.out hj).1)); clear o7 g7))
          refine H3.out _ _ ?_
          go_wp2_with fail
          go_roundw
          case rel => exact ⟨k + 1, o5 ++ [x], d5, hlt, by go_num, rfl, O7.out, Q7.out, by have := E5.out; rw [hne] at this; simpa using this, by have := L5.out; simp; omega⟩
          case measure => first | exact measD _ _ hlt | (simp [intOf]; omega)
end Go.Proofs.Ythnmpnepgagmmaa
