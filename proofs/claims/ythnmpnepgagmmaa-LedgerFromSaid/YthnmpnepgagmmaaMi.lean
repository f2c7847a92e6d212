/- The program's ledger: next at positions (by genMh.py). -/
import Derived.Test.YthnmpnepgagmmaaMh
namespace Go.Proofs.Ythnmpnepgagmmaa
open Go.RowKit Go.Shelf
set_option linter.unusedVariables false
set_option linter.unusedSimpArgs false
set_option linter.unusedSectionVars false

theorem wplP_next {w : World} {ops : Array Oper} {rest : List Oper} {o : Oper} {a : Act} {Q : Exit → Act → World → Prop} {b r : Nat} {l todo : List Po} (hg : o.guard = none) (it : Operand) (hop : o.op = Op.next it false) (hit : a.eval it = .pointer (some ⟨r, 0, none⟩)) (h : MP.Rg w r b l todo)
    (hDone : todo = [] → Hid (wpList Try.prog ops Q rest (a.put o.dst (.tuple #[.bool false])) w))
    (hMore : ∀ x todo' W, todo.Perm (x :: todo') → MP.Rg W r b l todo' → Fr (fun k => k = r) w W → W.heap.size = w.heap.size → (Instr.entry (.pointer (some ⟨r, 0, none⟩))).run Try.prog W = .ok (.tuple #[.agg #[.int .u32 x.co, .int .u32 x.ac], .agg (EP.cells x).toArray]) W →
      Hid (wpList Try.prog ops Q rest (a.put o.dst (.tuple #[.bool true, .agg #[.int .u32 x.co, .int .u32 x.ac], .agg (EP.cells x).toArray])) W)) : wpList Try.prog ops Q (o :: rest) a w :=
  wpl9_next w hg it hop hit h (fun ht => (hDone ht).out) (fun x t W p q f s e => (hMore x t W p q f s e).out)
set_option maxRecDepth 100000 in
set_option maxHeartbeats 8000000 in
theorem lnextP9 {b : Nat} {l : List Po} (nf : Nat) (lb : Array Value) (num : Po → Int) (told : Int) (w : World) (h : MP.Mp w b l) (eg : ∀ args w, (callFunc nf args).run Try.prog w = .ok (.enter nf args) w) (hN : NumF EP nf lb num l w)
    (hnum : ∀ x, x ∈ l → 0 ≤ num x) (ht : 0 ≤ told) :
    Calls Try.prog 68 #[.map (some b), .int .u32 told, .func (.func nf) #[] lb] w fun e w' => ∃ o, Best told num l o ∧ e = .returned (.tuple #[.agg (EP.cells (o.getD zeroPo)).toArray, .bool o.isSome]) ∧ Below w.heap.size w w' := by
  have hz := zero_po
  obtain ⟨W1, hW1, b1, x1⟩ := newP9 w
  obtain ⟨W2, hW2, b2, x2⟩ := newP9 W1
  have s1 : W1.heap.size = w.heap.size + 1 := by rw [← hW1]; simp
  have s2 : W2.heap.size = w.heap.size + 1 + 1 := by rw [← hW2]; simp [s1]
  rw [s1] at x2
  have HW1 := Lib.hid hW1
  have HW2 := Lib.hid hW2
  have b12 := b1.trans (b2.mono b1.size)
  have M2 := Lib.hid (h.below b12)
  have HN := Lib.hid hN
  have NUM := Lib.hid hnum
  have HT := Lib.hid ht
  have NEW := Lib.hid newP9
  have X0 : Hid (EP.Bx 47 W2 w.heap.size zeroPo ∧ EP.Bx 47 W2 (w.heap.size + 1) zeroPo) := Lib.hid ⟨gbx_below x1 b2, x2⟩
  have B12 := Lib.hid b12
  have S2 := Lib.hid s2
  have BL := Lib.hid h.lt
  clear h hN hnum ht hW1 hW2 b1 b2 b12 x1 x2 s1 s2
  go_enter Try.func68, Try.ntmps68
  go_wp2_with (at_range; rw [HW1.out, HW2.out]; refine wpl9_range _ rfl _ _ rfl Try.underlying58 rfl M2.out ?_; intro W3 rg q1 s1)
  go_frame
  have RG := Lib.hid rg
  have X3 : Hid (EP.Bx 47 W3 w.heap.size zeroPo ∧ EP.Bx 47 W3 (w.heap.size + 1) zeroPo) := Lib.hid ⟨gbx_below X0.out.1 q1, gbx_below X0.out.2 q1⟩
  have Q1 : Hid (Below w.heap.size w W3) := Lib.hid (B12.out.trans (q1.mono B12.out.size))
  have HB := Lib.hid s1
  clear rg q1 s1
  obtain ⟨r, hr⟩ : ∃ r, W2.heap.size = r := ⟨_, rfl⟩
  rw [hr] at RG HB S2
  rw [hr]
  clear hr
  go_loopw [9] (fun s wr => ∃ (done todo : List Po) (o : Option Po), s = .int .u32 (leastO num o) ∧ l.Perm (done ++ todo) ∧ Best told num done o ∧ MP.Rg wr r b l todo ∧ Below w.heap.size w wr ∧ EP.Bx 47 wr w.heap.size zeroPo ∧ EP.Bx 47 wr (w.heap.size + 1) (o.getD zeroPo)) (fun _ wr => wr.rangeLeft b r)
  case atStart => exact ⟨[], l, none, rfl, List.Perm.refl _, (fun x hx => nomatch hx), RG.out, Q1.out, X3.out.1, X3.out.2⟩
  case round =>
    obtain ⟨done, todo, o, rfl, hp, hbst, hr, hq, hx0, hx1⟩ := hrel
    have HP := Lib.hid hp
    have BS := Lib.hid hbst
    have HR := Lib.hid hr
    have HQ := Lib.hid hq
    have Y0 := Lib.hid hx0
    have Y1 := Lib.hid hx1
    have HLF := Lib.hid hr.left
    clear hp hr hq hbst hx0 hx1
    go_wp2_with (at_next; refine wplP_next rfl _ rfl rfl HR.out (fun ht => ?_) (fun x todo' W hpt hr2 f2 hs2 hen => ?_))
    · refine Lib.hid ?_
      have BL' : Hid (Best told num l o) := Lib.hid (best_perm (by
        have := HP.out
        rw [ht, List.append_nil] at this
        exact this.symm) BS.out)
      have RY := Lib.hid (gbx_rng Y1.out)
      have hne : ∀ y, o = some y → num y ≠ 0 := fun y hy => by
        have := BL'.out
        rw [hy] at this
        have h1 := this.2.1
        have h2 := HT.out
        omega
      cases o with
      | none =>
        have e0 : leastO num (none : Option Po) = 0 := rfl
        rw [e0]
        clear ht hne e0
        go_wp2_with (first | ((with_reducible refine gwl_load TP (w.heap.size + 1) 0 RY.out ?_ ?_ ?_); rfl; rfl) | (refine gwl_store TP zeroPo w.heap.size Y0.out rfl rfl ?_))
        exact bodyPost_ret (gret TP rfl _ _ w.heap.size rfl rfl (gbx_set Y0.out)) rfl ⟨none, BL'.out, rfl, below_row0 HQ.out (Nat.le_refl _)⟩
      | some y =>
        have e0 : leastO num (some y) = num y := rfl
        have hn0 := hne y rfl
        have hd : decide (num y = 0) = false := decide_eq_false hn0
        have hd2 : (num y == 0) = false := by simpa using hn0
        have hd3 : (num y != 0) = true := by simpa using hn0
        rw [e0]
        clear ht hne e0 hn0
        go_wp2_with (first | ((with_reducible refine gwl_load TP (w.heap.size + 1) 0 RY.out ?_ ?_ ?_); rfl; rfl) | (refine gwl_store TP y w.heap.size Y0.out rfl rfl ?_))
        exact bodyPost_ret (gret TP rfl _ _ w.heap.size rfl rfl (gbx_set Y0.out)) rfl ⟨some y, BL'.out, rfl, below_row0 HQ.out (Nat.le_refl _)⟩
    · refine Lib.hid ?_
      obtain ⟨V, hV, bV, xV⟩ := NEW.out W
      have HV := Lib.hid hV
      have XV := Lib.hid xV
      obtain ⟨V2, hV2⟩ : ∃ V2, V.setRow W.heap.size (EP.cells x).toArray = V2 := ⟨_, rfl⟩
      have HV2 := Lib.hid hV2
      have xv2 : EP.Bx 47 V2 W.heap.size x := by rw [← hV2]; exact gbx_set xV
      have bv2 : Below W.heap.size W V2 := by rw [← hV2]; exact below_row0 bV (Nat.le_refl _)
      have hwW : Below w.heap.size w W := ⟨HQ.out.os.symm ▸ f2.b0.os, f2.b0.tape.trans HQ.out.tape, f2.b0.output.trans HQ.out.output, Nat.le_trans HQ.out.size f2.size, fun k hk => (f2.at' k (Nat.lt_of_lt_of_le hk HQ.out.size) (by have := S2.out; omega)).trans (HQ.out.block k hk)⟩
      have hy0 : EP.Bx 47 W w.heap.size zeroPo := (f2.at' _ (Array.getElem?_eq_some_iff.1 Y0.out).1 (by have := S2.out; omega)).trans Y0.out
      have hy1 : EP.Bx 47 W (w.heap.size + 1) (o.getD zeroPo) := (f2.at' _ (Array.getElem?_eq_some_iff.1 Y1.out).1 (by have := S2.out; omega)).trans Y1.out
      have RV := Lib.hid (gbx_rng xv2)
      have hxl : x ∈ l := hr2.mp |> fun _ => HR.out.sub x (hpt.mem_iff.2 (List.mem_cons_self ..))
      have BW : Hid (Below w.heap.size w V2) := Lib.hid (hwW.trans (bv2.mono hwW.size))
      have C := Lib.hid (HN.out V2 x BW.out hxl)
      have HA : l.Perm ((done ++ [x]) ++ todo') := by
        have := HP.out.trans (hpt.append_left done)
        simpa using this
      have HAL := Lib.hid HA
      have PT : Hid (todo'.length < todo.length) := Lib.hid (by rw [hpt.length_eq]; simp)
      have A2 : Hid (MP.Rg V2 r b l todo' ∧ EP.Bx 47 V2 w.heap.size zeroPo ∧ EP.Bx 47 V2 (w.heap.size + 1) (o.getD zeroPo) ∧ EP.Bx 47 V2 W.heap.size x) := Lib.hid ⟨hr2.below bv2, gbx_below hy0 bv2, gbx_below hy1 bv2, xv2⟩
      have SZ : Hid (r < W.heap.size) := Lib.hid hr2.lt
      clear hpt hr2 f2 hs2 hV hV2 bV xV xv2 bv2 hwW hy0 hy1 HA
      go_wp2_with (first | (rw [HV.out]; refine gwl_store TP x W.heap.size XV.out rfl rfl ?_; rw [HV2.out]) | ((with_reducible refine gwl_load TP W.heap.size 0 RV.out ?_ ?_ ?_); rfl; rfl))
      refine C.out.mono ?_; rintro e w5 ⟨rfl, q5⟩
      have B5 : Hid (Below w.heap.size w w5) := Lib.hid (BW.out.trans (q5.mono BW.out.size))
      have A5 : Hid (MP.Rg w5 r b l todo' ∧ EP.Bx 47 w5 w.heap.size zeroPo ∧ EP.Bx 47 w5 (w.heap.size + 1) (o.getD zeroPo) ∧ EP.Bx 47 w5 W.heap.size x) := Lib.hid ⟨A2.out.1.below q5, gbx_below A2.out.2.1 q5, gbx_below A2.out.2.2.1 q5, gbx_below A2.out.2.2.2 q5⟩
      have R5 := Lib.hid (gbx_rng A5.out.2.2.2)
      clear q5
      by_cases h1 : told < num x
      · have d1 : decide (told < num x) = true := decide_eq_true h1
        have TK : Hid ((∀ z, o = some z → num x < num z) → Best told num (done ++ [x]) (some x)) := Lib.hid fun c => best_take BS.out h1 c
        have H1 := Lib.hid h1
        clear h1
        have E1 : Hid (leastO num (some x) = num x) := Lib.hid rfl
        cases o with
        | none =>
          have e0 : leastO num (none : Option Po) = 0 := rfl
          rw [e0]
          clear e0
          go_wp2_with (first | ((with_reducible refine gwl_load TP W.heap.size 0 R5.out ?_ ?_ ?_); rfl; rfl) | (refine gwl_store TP x (w.heap.size + 1) A5.out.2.2.1 rfl rfl ?_))
          obtain ⟨w6, hw6⟩ : ∃ w6, w5.setRow (w.heap.size + 1) (EP.cells x).toArray = w6 := ⟨_, rfl⟩
          rw [hw6]
          have f6 : Fr (fun k => k = w.heap.size + 1) w5 w6 := by rw [← hw6]; exact fr_row (S := fun k => k = w.heap.size + 1) rfl _
          have n1 := S2.out
          have n2 := SZ.out
          have n3 := BL.out
          have R6 : Hid (MP.Rg w6 r b l todo' ∧ Below w.heap.size w w6 ∧ EP.Bx 47 w6 w.heap.size zeroPo ∧ EP.Bx 47 w6 (w.heap.size + 1) x) := Lib.hid ⟨A5.out.1.same (f6.at' b A5.out.1.mp.lt (by omega)) (f6.at' r A5.out.1.lt (by omega)), by rw [← hw6]; exact below_row0 B5.out (by omega), (f6.at' _ (Array.getElem?_eq_some_iff.1 A5.out.2.1).1 (by omega)).trans A5.out.2.1, by rw [← hw6]; exact gbx_set A5.out.2.2.1⟩
          clear f6 hw6
          go_wp2_with fail
          go_roundw
          case rel => exact ⟨done ++ [x], todo', some x, by rw [E1.out], HAL.out, TK.out (fun z c => nomatch c), R6.out.1, R6.out.2.1, R6.out.2.2.1, R6.out.2.2.2⟩
          case measure =>
            show w6.rangeLeft b r < wr.rangeLeft b r
            rw [R6.out.1.left, HLF.out]
            exact PT.out
        | some z =>
          have e0 : leastO num (some z) = num z := rfl
          have hn0 : num z ≠ 0 := by
            have h1 := BS.out.2.1
            have h2 := HT.out
            omega
          have hd : decide (num z = 0) = false := decide_eq_false hn0
          have hd2 : (num z == 0) = false := by simpa using hn0
          rw [e0]
          clear hn0
          by_cases h3 : num x < num z
          · have d3 : decide (num x < num z) = true := decide_eq_true h3
            have H3 := Lib.hid h3
            clear h3 e0
            go_wp2_with (first | ((with_reducible refine gwl_load TP W.heap.size 0 R5.out ?_ ?_ ?_); rfl; rfl) | (refine gwl_store TP x (w.heap.size + 1) A5.out.2.2.1 rfl rfl ?_))
            obtain ⟨w6, hw6⟩ : ∃ w6, w5.setRow (w.heap.size + 1) (EP.cells x).toArray = w6 := ⟨_, rfl⟩
            rw [hw6]
            have f6 : Fr (fun k => k = w.heap.size + 1) w5 w6 := by rw [← hw6]; exact fr_row (S := fun k => k = w.heap.size + 1) rfl _
            have n1 := S2.out
            have n2 := SZ.out
            have n3 := BL.out
            have R6 : Hid (MP.Rg w6 r b l todo' ∧ Below w.heap.size w w6 ∧ EP.Bx 47 w6 w.heap.size zeroPo ∧ EP.Bx 47 w6 (w.heap.size + 1) x) := Lib.hid ⟨A5.out.1.same (f6.at' b A5.out.1.mp.lt (by omega)) (f6.at' r A5.out.1.lt (by omega)), by rw [← hw6]; exact below_row0 B5.out (by omega), (f6.at' _ (Array.getElem?_eq_some_iff.1 A5.out.2.1).1 (by omega)).trans A5.out.2.1, by rw [← hw6]; exact gbx_set A5.out.2.2.1⟩
            clear f6 hw6
            go_wp2_with fail
            go_roundw
            case rel => exact ⟨done ++ [x], todo', some x, by rw [E1.out], HAL.out, TK.out (fun y c => by cases c; exact H3.out), R6.out.1, R6.out.2.1, R6.out.2.2.1, R6.out.2.2.2⟩
            case measure =>
              show w6.rangeLeft b r < wr.rangeLeft b r
              rw [R6.out.1.left, HLF.out]
              exact PT.out
          · have d3 : decide (num x < num z) = false := decide_eq_false h3
            have BK : Hid (Best told num (done ++ [x]) (some z)) := Lib.hid (best_keep BS.out (by omega))
            clear h3
            go_wp2_with fail
            go_roundw
            case rel => exact ⟨done ++ [x], todo', some z, by rw [e0], HAL.out, BK.out, A5.out.1, B5.out, A5.out.2.1, A5.out.2.2.1⟩
            case measure =>
              show w5.rangeLeft b r < wr.rangeLeft b r
              rw [A5.out.1.left, HLF.out]
              exact PT.out
      · have d1 : decide (told < num x) = false := decide_eq_false h1
        have BK : Hid (Best told num (done ++ [x]) o) := Lib.hid (best_skip BS.out h1)
        clear h1
        obtain ⟨lo, hlo⟩ : ∃ lo, leastO num o = lo := ⟨_, rfl⟩
        rw [hlo]
        have HLO := Lib.hid hlo
        clear hlo
        go_wp2_with fail
        go_roundw
        case rel => exact ⟨done ++ [x], todo', o, by rw [HLO.out], HAL.out, BK.out, A5.out.1, B5.out, A5.out.2.1, A5.out.2.2.1⟩
        case measure =>
          show w5.rangeLeft b r < wr.rangeLeft b r
          rw [A5.out.1.left, HLF.out]
          exact PT.out
end Go.Proofs.Ythnmpnepgagmmaa
