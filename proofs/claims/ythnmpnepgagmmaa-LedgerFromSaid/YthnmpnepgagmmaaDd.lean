/- The document's ledger: hold (by genDc.py). -/
import Derived.Test.YthnmpnepgagmmaaDc
namespace Go.Proofs.Ythnmpnepgagmmaa
open Go.RowKit Go.Shelf
set_option linter.unusedVariables false
set_option linter.unusedSimpArgs false

theorem Rl.setH9 {w U : World} {B g N : Nat} {va vh v' : Value} {L : Lg} {l' : List Po} (h : Rl w B g va vh L) (q : Below w.heap.size w U) (o : EP.Own 47 U N v' l') (hN : w.heap.size ≤ N) : Rl (U.setCell ⟨g, 2, none⟩ v') B g va v' ⟨L.fund, L.al, l'⟩ ∧ Fr (fun k => k = g) w (U.setCell ⟨g, 2, none⟩ v') ∧ ∀ k, v'.ownBlock = some k → w.heap.size ≤ k := by
  have h2 := h.below q
  have hg := h.gl
  have hge := h.ge
  have na : ∀ k, v'.ownBlock = some k → ¬ g = k := fun k e c => by have := (gown_lt o e).1; omega
  refine ⟨⟨heap_setCell_same U g 2 _ _ _ h2.blk, gown_same h2.oa (fun k hk => heap_setCell_other U _ k _ (fun e => h2.apartA k hk e)), gown_same (gown_low o (by omega)) (fun k hk => heap_setCell_other U _ k _ (fun e => na k hk e.symm)), h.ge⟩, (Fr.below q).same (Fr.set (S := fun k => k = g) rfl _), fun k e => Nat.le_trans hN (gown_lt o e).1⟩
set_option maxRecDepth 100000 in
set_option maxHeartbeats 16000000 in
theorem rhold9 {B g : Nat} {va vh : Value} {L : Lg} (a : Po) (w : World) (h : Rl w B g va vh L) (hl : L.hl.length ≤ 5000) :
    Calls Try.prog 38 #[.pointer (some ⟨g, 0, none⟩), .agg (EP.cells a).toArray] w fun e w' => e = .returned (.tuple #[]) ∧ ∃ v', Rl w' B g va v' ⟨L.fund, L.al, holdL L.hl a⟩ ∧ Fr (fun k => k = g) w w' ∧ ∀ k, v'.ownBlock = some k → w.heap.size ≤ k := by
  have hz := zero_po
  obtain ⟨w1, hw1⟩ : ∃ w1, w.alloc (.cells (EP.cells a).toArray 47) = w1 := ⟨_, rfl⟩
  have xa : EP.Bx 47 w1 w.heap.size a := by rw [← hw1]; exact gbx_new w a
  have b1 : Below w.heap.size w w1 := by rw [← hw1]; exact below_new w _
  have hs1 : w1.heap.size = w.heap.size + 1 := by rw [← hw1]; simp
  have HH := Lib.hid h
  have B1 := Lib.hid b1
  have HW := Lib.hid hw1
  have S1 : Hid (w.heap.size < w1.heap.size ∧ g < w.heap.size) := Lib.hid ⟨by omega, h.gl⟩
  have XA := Lib.hid fun (U : World) (q : Below w1.heap.size w1 U) => gbx_below xa q
  obtain ⟨A, c, rfl, _⟩ := gown_form h.oh
  obtain ⟨ls, hls⟩ : ∃ ls, L.hl = ls := ⟨_, rfl⟩
  have k1 := (h.below b1).c2
  have o1 := (h.below b1).oh
  rw [hls] at k1 o1 hl
  obtain ⟨m, hm⟩ : ∃ m, ls.length = m := ⟨_, rfl⟩
  rw [hm] at k1 o1 hl
  have FZ := Lib.hid fun (U : World) (q : Below w1.heap.size w1 U) => ((h.below b1).below q).fz 2
  have KK := Lib.hid fun (U : World) (q : Below w1.heap.size w1 U) => (show U.cell? ⟨g, 2, none⟩ = some (.slice A m c) from cell_below k1 q (Nat.le_refl _))
  have HO := Lib.hid fun (U : World) (q : Below w1.heap.size w1 U) => gown_below o1 q
  have HL := Lib.hid hm
  have POST := Lib.hid fun (U : World) (v' : Value) (l' : List Po) (q : Below w1.heap.size w1 U) (o : EP.Own 47 U w1.heap.size v' l') => Rl.setH9 h (b1.trans (q.mono (Nat.le_of_lt S1.out.1))) o (Nat.le_of_lt S1.out.1)
  obtain ⟨fin, hfin⟩ : ∃ fin, holdL L.hl a = fin := ⟨_, rfl⟩
  have HFIN := Lib.hid hfin
  obtain ⟨d0, hd0⟩ : ∃ d, (a.q == 0 && a.b == 0) = d := ⟨_, rfl⟩
  have ST : Hid (layF (geP a) (neP a) a ls d0 = fin) := Lib.hid (by rw [← hfin, hls, ← hd0]; rfl)
  have q0 : w1.cell? ⟨w.heap.size, 2, none⟩ = some (.int .i64 a.q) := gbx_cell xa 2
  have q1 : w1.cell? ⟨w.heap.size, 3, none⟩ = some (.int .i64 a.b) := gbx_cell xa 3
  have HD := Lib.hid hd0
  clear h hls hm k1 o1 xa b1 hw1 hs1 hfin hd0
  go_enter Try.func38, Try.ntmps38
  apply wp_seq_k; intro KA hA; have HKA := Lib.hid hA; clear hA
  go_wp2_with fail
  rw [HW.out]
  refine HKA.out _ _ ?_
  clear HKA
  apply wp_seq_k; intro KA hA; have HKA := Lib.hid hA; clear hA
  go_wp2_with fail
  refine HKA.out _ _ ?_
  clear HKA
  refine wp_midD (fun a' w' => w' = w1 ∧ ∃ u0 : Nat → Value, a' = { tmps := #[.pointer (some ⟨g, 0, none⟩), .agg (EP.cells a).toArray, undef, .pointer (some ⟨w.heap.size, 0, none⟩), .slice none 0 0, .bool d0, undef, undef, u0 8, u0 9, u0 10, u0 11, u0 12, u0 13, u0 14, u0 15, undef, undef, undef, undef, undef, undef, undef, undef, undef, undef, undef, undef, undef, undef, undef, undef, undef, undef, undef, undef, undef, undef, undef, undef, undef, undef, undef, undef, undef, undef, undef, undef, undef, undef, undef, undef, undef, undef, undef, undef, undef, undef, undef, undef, undef, undef, undef, undef, undef, undef, undef, undef, undef, undef, undef, undef, undef, undef, undef, undef, undef, undef, undef, undef, undef, undef, undef, undef, undef], defers := [] }) ?r2X ?lpX
  case r2X =>
    intro KM hKM; have HKM := Lib.hid hKM; clear hKM
    cases hq : (a.q == 0)
    · have e : d0 = false := by rw [← HD.out, hq]; rfl
      go_wp2_with fail
      refine HKM.out _ _ ?_
      rw [e]
      exact ⟨rfl, intro_uD rfl⟩
    · cases hb : (a.b == 0)
      · have e : d0 = false := by rw [← HD.out, hq, hb]; rfl
        go_wp2_with fail
        refine HKM.out _ _ ?_
        rw [e]
        exact ⟨rfl, intro_uD rfl⟩
      · have e : d0 = true := by rw [← HD.out, hq, hb]; rfl
        go_wp2_with fail
        refine HKM.out _ _ ?_
        rw [e]
        exact ⟨rfl, intro_uD rfl⟩
  rintro a0 w0 ⟨hw0, u0, rfl⟩
  rw [hw0]
  clear hw0 q0 q1 HD
  go_wp2_with fail
  go_loopw [4, 5, 6] (fun o d i wr => ∃ (k : Nat) (out : List Po) (dd : Bool), k ≤ m ∧ i = .int .i64 k ∧ d = .bool dd ∧ EP.Own 47 wr w1.heap.size o out ∧ Below w1.heap.size w1 wr ∧ out ++ layF (geP a) (neP a) a (ls.drop k) dd = fin ∧ out.length ≤ 2 * k) (fun _ _ i _ => m - (intOf i).toNat)
  case atStart => exact ⟨0, [], d0, Nat.zero_le _, rfl, rfl, gown_nil _ _, Below.refl _ _, by simpa using ST.out, Nat.le_refl _⟩
  case round =>
    obtain ⟨k, out, dd, hk, rfl, rfl, hO, hB, hE, hlen⟩ := hrel
    have OW := Lib.hid hO
    have HB := Lib.hid hB
    have LN := Lib.hid hlen
    have EE := Lib.hid hE
    have kw := KK.out _ hB
    have fw := FZ.out _ hB
    obtain ⟨A1, n1, c1, rfl⟩ := gown_any hO
    clear hO hB hlen hE
    by_cases hlt : k < m
    case neg =>
      obtain rfl : k = m := by omega
      have ed : ls.drop k = [] := List.drop_of_length_le (by rw [HL.out]; exact Nat.le_refl _)
      cases dd with
      | true =>
        have E : Hid (out = fin) := Lib.hid (by rw [← EE.out, ed, lay_nil]; simp)
        clear ed
        go_wp2_with fail
        go_end0
        have p := POST.out _ _ _ HB.out OW.out
        rw [E.out, ← HFIN.out] at p
        exact ⟨rfl, _, p⟩
      | false =>
        have E : Hid (out ++ [a] = fin) := Lib.hid (by rw [← EE.out, ed, lay_nil]; simp)
        clear ed
        have RA := Lib.hid (gbx_rng (XA.out _ HB.out))
        obtain ⟨W3, hW3⟩ : ∃ W3, wr.alloc (.cells (EP.cells a).toArray 47) = W3 := ⟨_, rfl⟩
        have RD : Hid (EP.Rd W3 (some ⟨wr.heap.size, 0, none⟩) 1 [a]) := Lib.hid (by rw [← hW3]; exact gbx_rd (gbx_new (E := EP) wr _))
        have B3 : Hid (Below wr.heap.size wr W3) := Lib.hid (by rw [← hW3]; exact below_new _ _)
        have O3 := Lib.hid (gown_below OW.out B3.out)
        have HW3 := Lib.hid hW3
        clear hW3
        go_wp2_with (first | ((with_reducible refine gwl_load TP w.heap.size 0 RA.out ?_ ?_ ?_); rfl; rfl) | ((with_reducible refine gwl_bs TP (s := a) ?_ (fill_po _) ?_ (by decide)); rfl; rw [HW3.out]) | (at_builtin; refine gpl_app TP rfl (.tmp 77) (.tmp 79) rfl w1.heap.size (.slice A1 n1 c1) out rfl O3.out _ 1 1 [a] rfl RD.out (fun e => by cases e) (by have := LN.out; omega) (Nat.le_trans HB.out.size B3.out.size) ?_; intro v4 w4 o4 g4 _; have O4 := Lib.hid o4; have Q4 := Lib.hid ((HB.out.trans (B3.out.mono HB.out.size)).grown g4 (Nat.le_trans HB.out.size B3.out.size) (fun j hj => (gown_lt OW.out hj).1)); have kw4 := KK.out _ Q4.out; have fw4 := FZ.out _ Q4.out; clear o4 g4; obtain ⟨A4, n4, c4, rfl⟩ := gown_any O4.out))
        go_end0
        have p := POST.out _ _ _ Q4.out O4.out
        rw [E.out, ← HFIN.out] at p
        exact ⟨rfl, _, p⟩
    case pos =>
      have hd : decide ((k : Int) < m) = true := decide_eq_true (by omega)
      obtain ⟨x, hx⟩ : ∃ x, ls[k]? = some x := ⟨ls[k]'(by rw [HL.out]; exact hlt), List.getElem?_eq_getElem _⟩
      have ED : Hid (ls.drop k = x :: ls.drop (k + 1)) := Lib.hid (by rw [← List.getElem_cons_drop (i := k) (h := by have := HL.out; omega), (List.getElem?_eq_some_iff.1 hx).2])
      have HQ := Lib.hid (HO.out _ HB.out)
      obtain ⟨b, c', eb⟩ := gown_slot HQ.out (by have := HL.out; omega)
      injection eb with e1 _ e2
      subst e1 e2
      have hcap := gown_cap HQ.out
      obtain ⟨b', o', e', rg⟩ := grd_rng (gown_rd HQ.out) hx
      cases e'
      have eN : EP.N = 4 := rfl
      rw [eN, Nat.zero_add] at rg
      have RG := Lib.hid rg
      have X1 := Lib.hid (gbx_new (E := EP) (te := 47) wr zeroPo)
      obtain ⟨W2, hW2⟩ : ∃ W2, (wr.alloc (.cells (EP.cells zeroPo).toArray 47)).setRow wr.heap.size (EP.cells x).toArray = W2 := ⟨_, rfl⟩
      have Y2 : Hid (EP.Bx 47 W2 wr.heap.size x) := Lib.hid (by rw [← hW2]; exact gbx_set X1.out)
      have B2 : Hid (Below wr.heap.size wr W2) := Lib.hid (by rw [← hW2]; exact below_row0 (below_new _ _) (Nat.le_refl _))
      have S2 : Hid (wr.heap.size < W2.heap.size) := Lib.hid (Array.getElem?_eq_some_iff.1 Y2.out).1
      have Q2 := Lib.hid (HB.out.trans (B2.out.mono HB.out.size))
      have O2 := Lib.hid (gown_below OW.out B2.out)
      have XA2 := Lib.hid (XA.out _ Q2.out)
      have RA2 := Lib.hid (gbx_rng XA2.out)
      have RX2 := Lib.hid (gbx_rng Y2.out)
      have kx0 : W2.cell? ⟨wr.heap.size, 0, none⟩ = some (.int .u32 x.co) := gbx_cell Y2.out 0
      have ka0 : W2.cell? ⟨w.heap.size, 0, none⟩ = some (.int .u32 a.co) := gbx_cell XA2.out 0
      have kx1 : W2.cell? ⟨wr.heap.size, 1, none⟩ = some (.int .u32 x.ac) := gbx_cell Y2.out 1
      have ka1 : W2.cell? ⟨w.heap.size, 1, none⟩ = some (.int .u32 a.ac) := gbx_cell XA2.out 1
      have HW2 := Lib.hid hW2
      clear hx eN rg hW2
      apply wp_seq_k; intro K1 h1; have H1 := Lib.hid h1; clear h1
      go_wp2_with fail
      refine H1.out _ _ ?_
      clear H1
      apply wp_seq_k; intro K3 h3; have H3 := Lib.hid h3; clear h3
      refine wp_block ?_
      apply wp_seq_k; intro K5 h5; have H5 := Lib.hid h5; clear h5
      go_wp2_with (first | ((with_reducible refine gwl_load TP b (k * 4) RG.out ?_ ?_ ?_); rfl; rfl) | (refine gwl_store TP x wr.heap.size X1.out rfl rfl ?_; rw [HW2.out]))
      refine H5.out _ _ ?_
      clear H5
      refine wp_midD (fun a' wr' => ∃ A5 n5 c5, EP.Own 47 wr' w1.heap.size (.slice A5 n5 c5) (out ++ (if (!dd && geP a x) = true then [a] else [])) ∧ Below w1.heap.size w1 wr' ∧ EP.Bx 47 wr' wr.heap.size x ∧ ∃ u : Nat → Value, a' = { tmps := #[.pointer (some ⟨g, 0, none⟩), .agg (EP.cells a).toArray, undef, .pointer (some ⟨w.heap.size, 0, none⟩), .slice A5 n5 c5, .bool (dd || geP a x), .int .i64 k, .pointer (some ⟨wr.heap.size, 0, none⟩), u0 8, u0 9, u0 10, u0 11, u0 12, u0 13, u0 14, u0 15, u 16, u 17, u 18, u 19, u 20, u 21, u 22, u 23, u 24, u 25, u 26, u 27, u 28, u 29, u 30, u 31, u 32, u 33, u 34, u 35, u 36, u 37, u 38, u 39, u 40, u 41, u 42, u 43, u 44, u 45, u 46, u 47, u 48, u 49, u 50, u 51, u 52, u 53, u 54, u 55, u 56, u 57, u 58, u 59, u 60, u 61, u 62, u 63, u 64, u 65, u 66, u 67, u 68, u 69, u 70, u 71, u 72, u 73, u 74, undef, undef, undef, undef, undef, undef, undef, undef, undef, undef], defers := [] }) ?ifX ?tlX
      case ifX =>
        intro KM hKM; have HKM := Lib.hid hKM; clear hKM
        cases dd
        rotate_left
        · go_wp2_with fail
          refine HKM.out _ _ ?_
          exact ⟨A1, n1, c1, by simpa using O2.out, Q2.out, Y2.out, intro_uD rfl⟩
        have hge : Hid (geP a x = (decide (a.co < x.co) || ((x.co == a.co) && decide (a.ac ≤ x.ac)))) := Lib.hid rfl
        obtain ⟨t1, f1⟩ : ∃ t, decide (a.co < x.co) = t := ⟨_, rfl⟩
        obtain ⟨t2, f2⟩ : ∃ t, (x.co == a.co) = t := ⟨_, rfl⟩
        obtain ⟨t3, f4⟩ : ∃ t, decide (a.ac ≤ x.ac) = t := ⟨_, rfl⟩
        rw [f1, f2, f4] at hge
        cases t1
        · cases t2
          · have hg := hge.out
            simp only [hg, Bool.false_or, Bool.false_and] at HKM
            clear hge hg
            go_wp2_with fail
            refine HKM.out _ _ ?_
            exact ⟨A1, n1, c1, by simpa using O2.out, Q2.out, Y2.out, intro_uD rfl⟩
          · cases t3
            · have hg := hge.out
              simp only [hg, Bool.false_or, Bool.true_and] at HKM
              clear hge hg
              go_wp2_with fail
              refine HKM.out _ _ ?_
              exact ⟨A1, n1, c1, by simpa using O2.out, Q2.out, Y2.out, intro_uD rfl⟩
            · have hg := hge.out
              simp only [hg, Bool.false_or, Bool.true_and] at HKM
              clear hge hg
              obtain ⟨W3, hW3⟩ : ∃ W3, W2.alloc (.cells (EP.cells a).toArray 47) = W3 := ⟨_, rfl⟩
              have RD3 : Hid (EP.Rd W3 (some ⟨W2.heap.size, 0, none⟩) 1 [a]) := Lib.hid (by rw [← hW3]; exact gbx_rd (gbx_new (E := EP) W2 _))
              have B3 : Hid (Below W2.heap.size W2 W3) := Lib.hid (by rw [← hW3]; exact below_new _ _)
              have O3 := Lib.hid (gown_below O2.out B3.out)
              have Y3 := Lib.hid (gbx_below Y2.out B3.out)
              have Q3 := Lib.hid (Q2.out.trans (B3.out.mono Q2.out.size))
              have HW3 := Lib.hid hW3
              clear hW3
              go_wp2_with (first | ((with_reducible refine gwl_load TP w.heap.size 0 RA2.out ?_ ?_ ?_); rfl; rfl) | ((with_reducible refine gwl_bs TP (s := a) ?_ (fill_po _) ?_ (by decide)); rfl; rw [HW3.out]) | (at_builtin; refine gpl_app TP rfl (.tmp 55) (.tmp 57) rfl w1.heap.size (.slice A1 n1 c1) out rfl O3.out _ 1 1 [a] rfl RD3.out (fun e => by cases e) (by have := LN.out; omega) Q3.out.size ?_; intro v4 w4 o4 g4 _; have O4 := Lib.hid o4; have Q4 := Lib.hid (Q3.out.grown g4 Q3.out.size (fun j hj => (gown_lt O2.out hj).1)); have Y4 := Lib.hid (bx_grown9 Y3.out g4 (fun j hj => (gown_lt OW.out hj).2)); clear o4 g4; obtain ⟨A4, n4, c4, rfl⟩ := gown_any O4.out))
              refine HKM.out _ _ ?_
              exact ⟨A4, n4, c4, by simpa using O4.out, Q4.out, Y4.out, intro_uD rfl⟩
        · have hg := hge.out
          simp only [hg, Bool.true_or] at HKM
          clear hge hg
          obtain ⟨W3, hW3⟩ : ∃ W3, W2.alloc (.cells (EP.cells a).toArray 47) = W3 := ⟨_, rfl⟩
          have RD3 : Hid (EP.Rd W3 (some ⟨W2.heap.size, 0, none⟩) 1 [a]) := Lib.hid (by rw [← hW3]; exact gbx_rd (gbx_new (E := EP) W2 _))
          have B3 : Hid (Below W2.heap.size W2 W3) := Lib.hid (by rw [← hW3]; exact below_new _ _)
          have O3 := Lib.hid (gown_below O2.out B3.out)
          have Y3 := Lib.hid (gbx_below Y2.out B3.out)
          have Q3 := Lib.hid (Q2.out.trans (B3.out.mono Q2.out.size))
          have HW3 := Lib.hid hW3
          clear hW3
          go_wp2_with (first | ((with_reducible refine gwl_load TP w.heap.size 0 RA2.out ?_ ?_ ?_); rfl; rfl) | ((with_reducible refine gwl_bs TP (s := a) ?_ (fill_po _) ?_ (by decide)); rfl; rw [HW3.out]) | (at_builtin; refine gpl_app TP rfl (.tmp 55) (.tmp 57) rfl w1.heap.size (.slice A1 n1 c1) out rfl O3.out _ 1 1 [a] rfl RD3.out (fun e => by cases e) (by have := LN.out; omega) Q3.out.size ?_; intro v4 w4 o4 g4 _; have O4 := Lib.hid o4; have Q4 := Lib.hid (Q3.out.grown g4 Q3.out.size (fun j hj => (gown_lt O2.out hj).1)); have Y4 := Lib.hid (bx_grown9 Y3.out g4 (fun j hj => (gown_lt OW.out hj).2)); clear o4 g4; obtain ⟨A4, n4, c4, rfl⟩ := gown_any O4.out))
          refine HKM.out _ _ ?_
          exact ⟨A4, n4, c4, by simpa using O4.out, Q4.out, Y4.out, intro_uD rfl⟩
      case tlX =>
        rintro a1 wr1 ⟨A5, n5, c5, hO5, hB5, hY5, u, rfl⟩
        have O5 := Lib.hid hO5
        have Q5 := Lib.hid hB5
        have Y5 := Lib.hid hY5
        have RX5 := Lib.hid (gbx_rng hY5)
        have XA5 := Lib.hid (XA.out _ hB5)
        have kx0 : wr1.cell? ⟨wr.heap.size, 0, none⟩ = some (.int .u32 x.co) := gbx_cell hY5 0
        have ka0 : wr1.cell? ⟨w.heap.size, 0, none⟩ = some (.int .u32 a.co) := gbx_cell XA5.out 0
        have kx1 : wr1.cell? ⟨wr.heap.size, 1, none⟩ = some (.int .u32 x.ac) := gbx_cell hY5 1
        have ka1 : wr1.cell? ⟨w.heap.size, 1, none⟩ = some (.int .u32 a.ac) := gbx_cell XA5.out 1
        have L5 : Hid ((out ++ (if (!dd && geP a x) = true then [a] else [])).length ≤ 2 * k + 1) := Lib.hid (by have := LN.out; rw [List.length_append]; split <;> simp <;> omega)
        have E5 : Hid ((out ++ (if (!dd && geP a x) = true then [a] else [])) ++ ((if neP a x = true then [x] else []) ++ layF (geP a) (neP a) a (ls.drop (k + 1)) (dd || geP a x)) = fin) := Lib.hid (by rw [← EE.out, ED.out, lay_cons, List.append_assoc])
        obtain ⟨o5, ho5⟩ : ∃ o5, out ++ (if (!dd && geP a x) = true then [a] else []) = o5 := ⟨_, rfl⟩
        obtain ⟨d5, hd5⟩ : ∃ d5, (dd || geP a x) = d5 := ⟨_, rfl⟩
        rw [ho5] at O5 L5 E5
        rw [hd5] at E5 ⊢
        clear hO5 hB5 hY5 ho5 hd5 EE ED LN OW HB O2 Q2 Y2 S2 X1 HW2 RG RA2 RX2 XA2
        have hne : Hid (neP a x = ((x.co != a.co) || (x.ac != a.ac))) := Lib.hid rfl
        obtain ⟨t4, f3⟩ : ∃ t, (x.co != a.co) = t := ⟨_, rfl⟩
        obtain ⟨t5, f5⟩ : ∃ t, (x.ac != a.ac) = t := ⟨_, rfl⟩
        rw [f3, f5] at hne
        cases t4
        · cases t5
          · have hne := hne.out
            simp only [Bool.false_or] at hne
            have E6 := E5.out
            rw [hne] at E6
            have E7 := Lib.hid E6
            clear hne E6 E5
            go_wp2_with fail
            refine H3.out _ _ ?_
            go_wp2_with fail
            go_roundw
            case rel => exact ⟨k + 1, o5, d5, hlt, by go_num, rfl, O5.out, Q5.out, by have := E7.out; simpa using this, by have := L5.out; simp; omega⟩
            case measure => first | exact measD _ _ hlt | (simp [intOf]; omega)
          · have hne := hne.out
            simp only [Bool.false_or, Bool.true_or] at hne
            have E6 := E5.out
            rw [hne] at E6
            have E7 := Lib.hid E6
            clear hne E6 E5
            have RD6 := Lib.hid (gbx_rd (gbx_new (E := EP) (te := 47) wr1 x))
            have B6 := Lib.hid (below_new wr1 (.cells (EP.cells x).toArray 47))
            have O6 := Lib.hid (gown_below O5.out B6.out)
            have Q6 := Lib.hid (Q5.out.trans (B6.out.mono Q5.out.size))
            go_wp2_with (first | ((with_reducible refine gwl_load TP wr.heap.size 0 RX5.out ?_ ?_ ?_); rfl; rfl) | ((with_reducible refine gwl_bs TP (s := x) ?_ (fill_po _) ?_ (by decide)); rfl) | (at_builtin; refine gpl_app TP rfl (.tmp 71) (.tmp 73) rfl w1.heap.size (.slice A5 n5 c5) o5 rfl O6.out _ 1 1 [x] rfl RD6.out (fun e => by cases e) (by have := L5.out; omega) Q6.out.size ?_; intro v7 w7 o7 g7 _; have O7 := Lib.hid o7; have Q7 := Lib.hid (Q6.out.grown g7 Q6.out.size (fun j hj => (gown_lt O5.out hj).1)); clear o7 g7))
            refine H3.out _ _ ?_
            go_wp2_with fail
            go_roundw
            case rel => exact ⟨k + 1, o5 ++ [x], d5, hlt, by go_num, rfl, O7.out, Q7.out, by have := E7.out; simpa using this, by have := L5.out; simp; omega⟩
            case measure => first | exact measD _ _ hlt | (simp [intOf]; omega)
        · have hne := hne.out
          simp only [Bool.false_or, Bool.true_or] at hne
          have E6 := E5.out
          rw [hne] at E6
          have E7 := Lib.hid E6
          clear hne E6 E5
          have RD6 := Lib.hid (gbx_rd (gbx_new (E := EP) (te := 47) wr1 x))
          have B6 := Lib.hid (below_new wr1 (.cells (EP.cells x).toArray 47))
          have O6 := Lib.hid (gown_below O5.out B6.out)
          have Q6 := Lib.hid (Q5.out.trans (B6.out.mono Q5.out.size))
          go_wp2_with (first | ((with_reducible refine gwl_load TP wr.heap.size 0 RX5.out ?_ ?_ ?_); rfl; rfl) | ((with_reducible refine gwl_bs TP (s := x) ?_ (fill_po _) ?_ (by decide)); rfl) | (at_builtin; refine gpl_app TP rfl (.tmp 71) (.tmp 73) rfl w1.heap.size (.slice A5 n5 c5) o5 rfl O6.out _ 1 1 [x] rfl RD6.out (fun e => by cases e) (by have := L5.out; omega) Q6.out.size ?_; intro v7 w7 o7 g7 _; have O7 := Lib.hid o7; have Q7 := Lib.hid (Q6.out.grown g7 Q6.out.size (fun j hj => (gown_lt O5.out hj).1)); clear o7 g7))
          refine H3.out _ _ ?_
          go_wp2_with fail
          go_roundw
          case rel => exact ⟨k + 1, o5 ++ [x], d5, hlt, by go_num, rfl, O7.out, Q7.out, by have := E7.out; simpa using this, by have := L5.out; simp; omega⟩
          case measure => first | exact measD _ _ hlt | (simp [intOf]; omega)
end Go.Proofs.Ythnmpnepgagmmaa
