/- ScanSums, walked (by genTq.py). -/
import Derived.Test.YtgihmkdmcpcbeaaTn
import Derived.Deep.RegionHeld
namespace Go.Proofs.Ytgihmkdmcpcbeaa
open Go.RowKit Go.Shelf
set_option linter.unusedVariables false
set_option linter.unusedSimpArgs false

theorem yields_arr10 {ops : Array Oper} {S : World → Prop} {o : Oper} {a : Act} (hw : Region.wanted o (yielded ops a.tmps) = true) (x : Operand) (ho : o.op = .load 22 x) {l : List Int} (hl : l.length = 16) (b k : Nat) (hx : a.eval x = .pointer (some ⟨b, k, none⟩)) (hS : ∀ w, S w → w.rangeAt b k (l.map (Value.int .i64))) :
    YieldsIf Try.prog ops S o (.agg (arr10 l)) a :=
  yieldsIf_load_mid hw 22 x ho b k hx (l.map (Value.int .i64)) _ hS Try.underlying22 rfl (by rw [info_arr, List.length_map, hl])
theorem yields_q10 {ops : Array Oper} {S : World → Prop} {o : Oper} {a : Act} (hw : Region.wanted o (yielded ops a.tmps) = true) (x : Operand) (ho : o.op = .load 2 x) (b k : Nat) (hx : a.eval x = .pointer (some ⟨b, k, none⟩)) {v : Int} (hS : ∀ w, S w → w.cell? ⟨b, k, none⟩ = some (.int .i64 v)) :
    YieldsIf Try.prog ops S o (.int .i64 v) a := .inl ⟨hw, fun w hw' => by
      have h1 := hS w hw'
      obtain ⟨d, op, ty, ps, af, gd⟩ := o
      dsimp only at ho
      subst ho
      unfold execOp
      simp only [hx]
      go_simp⟩
/-- So many without their Credit. -/
def fo10 (l : List Lq) (i : Nat) : List Lq := (l.take i).map fr10 ++ l.drop i
theorem fo_at10 {l : List Lq} {i : Nat} {x : Lq} (h : l[i]? = some x) : (fo10 l i)[i]? = some x := by
  have hi := (List.getElem?_eq_some_iff.1 h).1
  have h1 : ((l.take i).map fr10).length = i := by rw [List.length_map, List.length_take]; omega
  unfold fo10
  rw [List.getElem?_append_right (by omega), h1, Nat.sub_self, List.getElem?_drop]
  exact h
theorem fo_set10 {l : List Lq} {i : Nat} {x : Lq} (h : l[i]? = some x) : (fo10 l i).set i (fr10 x) = fo10 l (i + 1) := by
  have hi := (List.getElem?_eq_some_iff.1 h).1
  have h1 : ((l.take i).map fr10).length = i := by rw [List.length_map, List.length_take]; omega
  unfold fo10
  rw [List.set_append_right _ _ (by omega), h1, Nat.sub_self, List.drop_eq_getElem_cons hi, List.set_cons_zero, take_l10 h, List.map_append, List.append_assoc]; rfl
theorem fo_len10 (l : List Lq) (i : Nat) : (fo10 l i).length = l.length := by
  unfold fo10
  rw [List.length_append, List.length_map, List.length_take, List.length_drop]; omega
theorem fr_cells10 (x : Lq) : EL.cells (fr10 x) = (EL.cells x).set 22 (.int .i64 0) := by
  obtain ⟨⟨nu, ro, ti, lo, ba, li, sh, cr, la, fi⟩, q, h⟩ := x
  obtain ⟨a, b, c, d, e, f, g, i, j, k, m, n, o, p', q', r, rfl⟩ := sixteen10 h
  rfl
theorem fr_ok10 {x : Lq} (ok : x.ok) : (fr10 x).ok := by
  have o := ok.sp
  exact ⟨⟨o.nu, o.ro, o.ti, o.lo, o.ba, o.li, o.len, o.sh, by show I64 0; unfold I64; omega, o.la, o.fi⟩, ok.q⟩
theorem rev_take10 {l : List Lq} {n i : Nat} {y : Lq} (hl : l.length = n) (hi : i < n) (h : l[n - 1 - i]? = some y) : l.reverse.take (i + 1) = l.reverse.take i ++ [y] := by
  have e : l.reverse[i]? = some y := by rw [List.getElem?_reverse (by omega), hl]; exact h
  rw [List.take_add_one, e]; rfl
theorem built0_10 (s : Sp) (hs : s.sh.length = 16) : Program.built Try.prog 34 [(0, .agg s.cells)] = some (EL.cells ⟨s, 0, hs⟩).toArray := by
  obtain ⟨nu, ro, ti, lo, ba, li, sh, cr, la, fi⟩ := s
  obtain ⟨a, b, c, d, e, f, g, i, j, k, m, n, o, p', q', r, rfl⟩ := sixteen10 hs
  kernel_rfl
theorem wl_lz10 {ops : Array Oper} {rest : List Oper} {a : Act} {w : World} {Q : Exit → Act → World → Prop} {d : Option Nat} {x : Operand} {ty : TypeId} {ps : String} {af : Array Edge} (s : Sp) (hs : s.sh.length = 16) (hx : a.eval x = .agg s.cells) (h : wpList Try.prog ops Q rest (a.put d (.agg (EL.cells ⟨s, 0, hs⟩).toArray)) w) :
    wpList Try.prog ops Q ({ dst := d, op := .build 34 #[(0, x)], type := ty, pos := ps, after := af, guard := none } :: rest) a w := by
  have e : (#[(0, x)].map fun (i, x) => (i, a.eval x)).toList = [(0, Value.agg s.cells)] := by
    rw [show (#[(0, x)].map fun (i, x) => (i, a.eval x)).toList = [(0, a.eval x)] from by simp, hx]
  refine wpList_build rfl 34 _ rfl (by rw [e, built0_10 s hs]; rfl) ?_
  rw [e, built0_10 s hs]
  exact h
set_option maxRecDepth 100000 in
set_option maxHeartbeats 8000000 in
theorem sums10_all (A : Option Addr) (n c : Nat) (l : List Lq) (s : Sp) (w : World) (h : EL.Rd w A n l) (hok : ∀ x, x ∈ l → x.ok) (hn : n ≤ maxLen) (h0 : A = none → c = 0) (oks : s.ok) :
    Calls Try.prog 6 #[.slice A n c, .agg s.cells] w fun e w' => e = .returned (.bool true) ∧ Below w.heap.size w w' := by
  obtain ⟨w1, hw1⟩ : ∃ W, w.alloc (.cells s.cells 32) = W := ⟨_, rfl⟩
  have b1 : Below w.heap.size w w1 := by rw [← hw1]; exact below_new _ _
  have x1 : Box w1 w.heap.size s := by rw [← hw1]; exact box_new w oks.len
  have KN := Lib.hid fun (U : World) (qU : Below w.heap.size w U) => (known10 U).mono (fun e W h => (⟨h.1, qU.trans (h.2.mono qU.size)⟩ : e = .returned (.bool true) ∧ Below w.heap.size w W))
  have HR := Lib.hid fun (W : World) (q : Below w.heap.size w W) => (show EL.Rd W A n l from grd_below h q (Nat.le_refl _))
  have XS := Lib.hid fun (W : World) (q : Below w1.heap.size w1 W) => (show Box W w.heap.size s from x1.below q)
  have B1 := Lib.hid b1
  have M0 := Lib.hid (margin10 A n c l w1 (HR.out w1 b1) hok hn)
  have HK := Lib.hid hok
  have HL := Lib.hid h.1
  have H0 := Lib.hid h0
  have HN := Lib.hid hn
  have HW1 := Lib.hid hw1
  have OKS := Lib.hid oks
  unfold maxLen at hn
  by_cases c1 : marE l = 0
  case neg =>
    have E := Lib.hid (marN_no c1)
    have c2 : (marE l != 0) = true := bne_iff_ne.2 c1
    rw [E.out] at M0
    generalize marE l = me at *
    clear h hok h0 c1 x1 b1 hw1 oks
    go_enter Try.func6, Try.ntmps6
    go_wp2_with (rw [HW1.out])
    refine M0.out.mono ?_; rintro e w2 ⟨rfl, q2⟩
    have Q2 := Lib.hid (B1.out.trans (q2.mono B1.out.size))
    clear q2
    go_wp2_with fail
    refine (KN.out _ Q2.out).mono ?_; rintro e w3 ⟨rfl, q3⟩
    have Q3 := Lib.hid q3
    clear q3
    go_wp2_with fail
    go_ret
    exact ⟨rfl, Q3.out⟩
  rw [c1] at M0
  have hn16 : n ≤ 16 := by have := (mar_ok c1).1; have := h.1; omega
  by_cases c15 : 15 < n
  · have d15 : decide ((15 : Int) < (n : Int)) = true := decide_eq_true (by omega)
    obtain ⟨z, hz⟩ : ∃ z : Bool, (marN l == 0) = z := ⟨_, rfl⟩
    generalize marN l = mn at *
    clear h hok h0 c1 x1 b1 hw1 oks
    go_enter Try.func6, Try.ntmps6
    go_wp2_with (rw [HW1.out])
    refine M0.out.mono ?_; rintro e w2 ⟨rfl, q2⟩
    have Q2 := Lib.hid (B1.out.trans (q2.mono B1.out.size))
    clear q2
    cases z
    · go_wp2_with fail
      refine (KN.out _ Q2.out).mono ?_; rintro e w3 ⟨rfl, q3⟩
      have Q3 := Lib.hid q3
      clear q3
      go_wp2_with fail
      go_ret
      exact ⟨rfl, Q3.out⟩
    · go_wp2_with fail
      refine (KN.out _ Q2.out).mono ?_; rintro e w3 ⟨rfl, q3⟩
      have Q3 := Lib.hid q3
      clear q3
      go_wp2_with fail
      go_ret
      exact ⟨rfl, Q3.out⟩
  have d15 : decide ((15 : Int) < (n : Int)) = false := decide_eq_false (by omega)
  have C1 := Lib.hid c1
  have LB : Hid (LegsB l) := Lib.hid ⟨(mar_ok c1).1, (mar_ok c1).2.1⟩
  obtain ⟨mn, hmn⟩ : ∃ m, marN l = m := ⟨_, rfl⟩
  rw [hmn] at M0
  have HMN := Lib.hid hmn
  have mb := marN_bd (l := l)
  rw [hmn] at mb
  obtain ⟨mb1, mb2⟩ := mb
  clear h hok h0 c1 x1 b1 hw1 oks hmn
  go_enter Try.func6, Try.ntmps6
  go_wp2_with (rw [HW1.out])
  refine M0.out.mono ?_; rintro e w2 ⟨rfl, q2⟩
  have Q2 := Lib.hid (B1.out.trans (q2.mono B1.out.size))
  have XS2 := Lib.hid fun (W : World) (q : Below w2.heap.size w2 W) => XS.out W (q2.trans (q.mono q2.size))
  have O0 := Lib.hid (gown_new (E := EL) (te := 34) w2)
  have B0 := Lib.hid (below_new w2 (.cells #[] 34))
  have R0 := Lib.hid (HR.out _ (Q2.out.trans (B0.out.mono Q2.out.size)))
  clear q2
  go_wp2_with (at_builtin; refine gpl_app TL rfl _ _ rfl w2.heap.size _ [] rfl O0.out A n c l rfl R0.out H0.out (by simp; omega) (by simp) ?_; intro v' w' h1 h2 h3; rw [List.nil_append] at h1; obtain ⟨A1, ca, rfl, n1⟩ := gown_form h1; rw [HL.out] at h1 ⊢)
  have B2 : Hid (Below w2.heap.size w2 w') := Lib.hid (B0.out.grown h2 (by simp) (fun k e => (by cases e; exact Nat.le_refl _)))
  have OW := Lib.hid h1
  clear h1 h2 h3
  go_loopw [7, 8, 48] (fun va' vs vi wr => ∃ (i : Nat) (va : Value) (sm : Int), i ≤ n ∧ vi = .int .i64 i ∧ va = va' ∧ vs = .int .i64 sm ∧ sm = sumL wsL (l.take i) ∧ EL.Own 34 wr w2.heap.size va (l.reverse.take i) ∧ EL.Own 34 wr w2.heap.size (.slice A1 n ca) (fo10 l i) ∧ (∀ j, va.ownBlock = some j → (Value.slice A1 n ca).ownBlock = some j → False) ∧ Below w2.heap.size w2 wr) (fun _ _ vi _ => n - (intOf vi).toNat)
  case atStart => exact ⟨0, _, 0, Nat.zero_le _, rfl, rfl, rfl, rfl, gown_nil _ _, OW.out, (fun j h => by cases h), B2.out⟩
  case round =>
    obtain ⟨i, va, sm, hi, rfl, rfl, rfl, hs, oa, of, ap, hb⟩ := hrel
    have HS := Lib.hid hs
    have OA := Lib.hid oa
    have OF := Lib.hid of
    have AP := Lib.hid ap
    have HB := Lib.hid hb
    have BW := Lib.hid (Q2.out.trans (hb.mono Q2.out.size))
    have sb := wsL_bd (LB.out.take i)
    rw [← hs] at sb
    obtain ⟨sb1, sb2⟩ := sb
    clear hs oa of ap hb
    by_cases hlt : i < n
    case neg =>
      obtain rfl : i = n := by omega
      have et : l.take i = l := List.take_of_length_le (by rw [HL.out]; exact Nat.le_refl _)
      have er : l.reverse.take i = l.reverse := List.take_of_length_le (by rw [List.length_reverse, HL.out]; exact Nat.le_refl _)
      have ef : fo10 l i = l.map fr10 := by
        unfold fo10
        rw [et, List.drop_of_length_le (by rw [HL.out]; exact Nat.le_refl _), List.append_nil]
      rw [et] at HS
      rw [er] at OA
      rw [ef] at OF
      obtain ⟨r1, r2⟩ := rev10 C1.out
      obtain ⟨f1, f2, f3⟩ := free10 C1.out
      rw [HMN.out] at r2 f3
      rw [← HS.out] at f2 f3
      obtain ⟨Aa, cc, rfl, na⟩ := gown_form OA.out
      have lr : l.reverse.length = i := by rw [List.length_reverse]; exact HL.out
      rw [lr] at OA AP ⊢
      have NA := Lib.hid na
      have OKR : Hid (∀ x, x ∈ l.reverse → x.ok) := Lib.hid fun x hx => HK.out x (List.mem_reverse.1 hx)
      have MR := Lib.hid (margin10 Aa i cc l.reverse wr (gown_rd OA.out) OKR.out HN.out)
      rw [r1, r2] at MR
      have MF := Lib.hid fun (W : World) (q : Below wr.heap.size wr W) => margin10 A1 i ca (l.map fr10) W (grd_below (gown_rd OF.out) q (Nat.le_refl _)) (fun y hy => by
        obtain ⟨x, hx, rfl⟩ := List.mem_map.1 hy
        exact fr_ok10 (HK.out x hx)) HN.out
      rw [f1, f2] at MF
      have XS3 := Lib.hid fun (W : World) (q : Below wr.heap.size wr W) => XS2.out W (HB.out.trans (q.mono HB.out.size))
      have d1 : decide (mn < 0) = false := decide_eq_false (by omega)
      have d2 : decide (sm < mn) = false := decide_eq_false (by omega)
      have LS := Lib.hid OKS.out.len
      have L0 : Hid (l.reverse.length + 1 ≤ 100000) := Lib.hid (by rw [lr]; omega)
      have MOK : Hid (∀ x, x ∈ l.reverse ++ [⟨s, 0, LS.out⟩] → x.ok) := Lib.hid fun x hx => by
        rcases List.mem_append.1 hx with h | h
        · exact OKR.out x h
        · rw [List.mem_singleton.1 h]
          exact ⟨OKS.out, by show I64 0; unfold I64; omega⟩
      have ME : Hid (marE (l.reverse ++ [⟨s, 0, LS.out⟩]) = 0 → marN (l.reverse ++ [⟨s, 0, LS.out⟩]) = mn) := Lib.hid fun h => by
        rw [more10' rfl r1 h, r2]
      clear et er ef r1 r2 f1 f2 f3 na
      go_wp2_with fail
      refine MR.out.mono ?_; rintro e w3 ⟨rfl, q3⟩
      have MF2 := Lib.hid (MF.out w3 q3)
      have Q3 := Lib.hid q3
      clear q3
      go_wp2_with fail
      refine MF2.out.mono ?_; rintro e w4 ⟨rfl, q4⟩
      have Q4 := Lib.hid (Q3.out.trans (q4.mono Q3.out.size))
      have X4 := Lib.hid (XS3.out w4 Q4.out)
      obtain ⟨W5, hW5⟩ : ∃ W, w4.alloc (.cells (EL.cells ⟨s, 0, LS.out⟩).toArray 34) = W := ⟨_, rfl⟩
      have y5 : EL.Bx 34 W5 w4.heap.size ⟨s, 0, LS.out⟩ := by rw [← hW5]; exact gbx_new _ _
      have B5 : Hid (Below wr.heap.size wr W5) := Lib.hid (by rw [← hW5]; exact Q4.out.trans ((below_new _ _).mono Q4.out.size))
      have Y5 := Lib.hid y5
      have OA5 := Lib.hid (gown_below OA.out B5.out)
      have S5 : Hid (w2.heap.size ≤ W5.heap.size) := Lib.hid (by have := B5.out.size; have := HB.out.size; omega)
      have HW5 := Lib.hid hW5
      have F5 : Hid (Below w.heap.size w W5) := Lib.hid (BW.out.trans (B5.out.mono BW.out.size))
      clear q4 y5 hW5 MR MF
      go_wp2_with (first
        | ((with_reducible refine wl_load_sp w.heap.size X4.out ?_ ?_ ?_); rfl; rfl)
        | ((with_reducible refine wl_lz10 s LS.out ?_ ?_); rfl)
        | ((with_reducible refine wl_bs10 (x := ⟨s, 0, LS.out⟩) ?_ ?_); rfl; rw [HW5.out])
        | (at_builtin; refine gpl_app TL rfl _ _ rfl w2.heap.size _ _ rfl OA5.out _ 1 1 [⟨s, 0, LS.out⟩] rfl (gbx_rd Y5.out) (fun e => by cases e) L0.out S5.out ?_; intro v6 w6 h1 h2 h3; obtain ⟨A6, c6, rfl, n6⟩ := gown_form h1; rw [List.length_append, lr, List.length_singleton] at h1 ⊢))
      have B6 : Hid (Below w.heap.size w w6) := Lib.hid (F5.out.grown h2 (by have := Q2.out.size; have := S5.out; omega) (fun j e => by have := (gown_lt OA5.out e).1; have := Q2.out.size; omega))
      have M6 := Lib.hid (margin10 A6 (i + 1) c6 _ w6 (gown_rd h1) MOK.out (by unfold maxLen; omega))
      generalize marN (l.reverse ++ [⟨s, 0, LS.out⟩]) = mz at *
      generalize marE (l.reverse ++ [⟨s, 0, LS.out⟩]) = ez at *
      clear h1 h2 h3
      refine M6.out.mono ?_; rintro e w7 ⟨rfl, q7⟩
      have B7 := Lib.hid (B6.out.trans (q7.mono B6.out.size))
      clear q7
      by_cases ce : ez = 0
      · have e1 := ME.out ce
        subst ce e1
        go_wp2_with fail
        refine (KN.out _ B7.out).mono ?_; rintro e w8 ⟨rfl, q8⟩
        have Q8 := Lib.hid q8
        clear q8
        go_wp2_with fail
        go_ret
        exact ⟨rfl, Q8.out⟩
      · have e2 : (ez != 0) = true := bne_iff_ne.2 ce
        go_wp2_with fail
        refine (KN.out _ B7.out).mono ?_; rintro e w8 ⟨rfl, q8⟩
        have Q8 := Lib.hid q8
        clear q8
        go_wp2_with fail
        go_ret
        exact ⟨rfl, Q8.out⟩
    case pos =>
      have hdk : decide ((i : Int) < n) = true := decide_eq_true (by omega)
      have hki : (i : Int) < (n : Int) := by omega
      obtain ⟨x, hx⟩ : ∃ x, l[i]? = some x := ⟨l[i]'(by have := HL.out; omega), List.getElem?_eq_getElem _⟩
      obtain ⟨y, hy⟩ : ∃ y, l[n - 1 - i]? = some y := ⟨l[n - 1 - i]'(by have := HL.out; omega), List.getElem?_eq_getElem _⟩
      have HX := Lib.hid hx
      have RT := Lib.hid (rev_take10 HL.out hlt hy)
      obtain ⟨j, hj⟩ : ∃ j, n - 1 - i = j := ⟨_, rfl⟩
      have ej : (n : Int) - 1 - (i : Int) = (j : Int) := by omega
      have jn : (j : Int) < (n : Int) := by omega
      rw [hj] at hy
      have HY := Lib.hid hy
      clear hy hj
      have RR := HR.out wr BW.out
      obtain ⟨bb, o, rfl, rg⟩ := grd_rng RR hx
      obtain ⟨b2, o2, e0, rg2⟩ := grd_rng RR HY.out
      cases e0
      replace rg : wr.rangeAt bb (o + i * 26) (EL.cells x) := rg
      replace rg2 : wr.rangeAt bb (o + j * 26) (EL.cells y) := rg2
      have RG2 := Lib.hid rg2
      obtain ⟨bf, cf, eb⟩ := gown_slot OF.out (by rw [fo_len10]; have := HL.out; omega)
      injection eb with eA en ec
      clear en
      subst eA ec
      have hbf : w2.heap.size ≤ bf := (gown_lt OF.out rfl).1
      obtain ⟨W4, hW4⟩ : ∃ W, wr.alloc (.cells (EL.cells y).toArray 34) = W := ⟨_, rfl⟩
      have Y4 : Hid (EL.Bx 34 W4 wr.heap.size y) := Lib.hid (by rw [← hW4]; exact gbx_new _ _)
      have B4 : Hid (Below wr.heap.size wr W4) := Lib.hid (by rw [← hW4]; exact below_new _ _)
      have HW4 := Lib.hid hW4
      have OA4 := Lib.hid (gown_below OA.out B4.out)
      have OF4 := Lib.hid (gown_below OF.out B4.out)
      have S4 : Hid (w2.heap.size ≤ W4.heap.size) := Lib.hid (by have := HB.out.size; have := B4.out.size; omega)
      have LR : Hid ((l.reverse.take i).length + 1 ≤ 100000) := Lib.hid (by rw [List.length_take]; omega)
      have VF : Hid (bf < W4.heap.size) := Lib.hid (gown_lt OF4.out rfl).2
      have SL := Lib.hid (scan_leg10 (LB.out.2 x (List.mem_of_getElem? hx)))
      have ok := HK.out x (List.mem_of_getElem? hx)
      have SC := Lib.hid fun W => scan10 x.sp.sh x.q W x.len ok.sp.sh ok.q
      rw [SL.out.1, SL.out.2] at SC
      have SS : Hid (sumL wsL (l.take (i + 1)) = sm + wsL x) := Lib.hid (by rw [take_l10 hx, sumL_app, sumL_one, ← HS.out])
      have w0 : 0 ≤ wsL x := wst_pos _ _
      have w9 := wst_max (M := 10000000) (legB_sh (LB.out.2 x (List.mem_of_getElem? hx))) (legB_iff.1 (LB.out.2 x (List.mem_of_getElem? hx))).2
      replace w9 : wsL x ≤ 100000000000000 := w9
      have LN := Lib.hid x.len
      have RGX := Lib.hid rg
      obtain ⟨q, hq⟩ : ∃ q, x.q = q := ⟨_, rfl⟩
      obtain ⟨ws, hws⟩ : ∃ ws, wsL x = ws := ⟨_, rfl⟩
      rw [hq, hws] at SC
      rw [hws] at SS w0 w9
      have HQ := Lib.hid hq
      clear hx RR rg rg2 hW4 ok hq hws
      go_wp2_with (first
        | ((with_reducible refine gwl_load TL bb (o + j * 26) RG2.out ?_ ?_ ?_); rfl; rfl)
        | ((with_reducible refine wl_bs10 (x := y) ?_ ?_); rfl; rw [HW4.out])
        | (at_builtin; refine gpl_app TL rfl _ _ rfl w2.heap.size va _ rfl OA4.out _ 1 1 [y] rfl (gbx_rd Y4.out) (fun e => by cases e) LR.out S4.out ?_; intro v5 W5 h1 h2 h3))
      have O5 : Hid (EL.Own 34 W5 w2.heap.size v5 (l.reverse.take (i + 1))) := Lib.hid (by rw [RT.out]; exact h1)
      have F5 : Hid (EL.Own 34 W5 w2.heap.size (.slice (some ⟨bf, 0, none⟩) n ca) (fo10 l i)) := Lib.hid (gown_same OF4.out fun k hk => h2.block k (by cases hk; exact VF.out) (fun e => AP.out k e.symm hk))
      have A5 : Hid (∀ k, v5.ownBlock = some k → (Value.slice (some ⟨bf, 0, none⟩) n ca).ownBlock = some k → False) := Lib.hid fun k hk hf => by
        rcases h3 with e | e
        · exact AP.out k (by rw [← e]; exact hk) hf
        · have e3 : W4.heap.size = k := by rw [e] at hk; exact Option.some.inj hk
          have e2 : bf = k := Option.some.inj hf
          have := VF.out; omega
      have B5 : Hid (Below w2.heap.size w2 W5) := Lib.hid ((HB.out.trans (B4.out.mono HB.out.size)).grown h2 S4.out (fun k e => (gown_lt OA4.out e).1))
      have BW5 := Lib.hid (Q2.out.trans (B5.out.mono Q2.out.size))
      have RX5 : Hid (W5.rangeAt bb (o + i * 26) (EL.cells x)) := Lib.hid (by
        obtain ⟨b3, o3, e3, r3⟩ := grd_rng (HR.out W5 BW5.out) HX.out
        cases e3
        exact r3)
      have AR := Lib.hid fun (U : World) (q : Below W5.heap.size W5 U) => (show U.rangeAt bb (o + i * 26 + 6) (x.sp.sh.map (Value.int .i64)) from rq_arr (rng_below RX5.out q (Nat.le_refl _)))
      have CQ := Lib.hid fun (U : World) (hU : Below W5.heap.size W5 U) => (show U.cell? ⟨bb, o + i * 26 + 25, none⟩ = some (.int .i64 q) from by rw [← HQ.out]; exact rq_q (rng_below RX5.out hU (Nat.le_refl _)))
      obtain ⟨A5', c5, rfl, n5⟩ := gown_form O5.out
      obtain ⟨m5, hm5⟩ : ∃ m, (l.reverse.take (i + 1)).length = m := ⟨_, rfl⟩
      rw [hm5] at O5 A5 ⊢
      clear hm5
      clear h1 h2 h3
      refine wp_region_held_drew (S := fun U => Below W5.heap.size W5 U) (by kernel_rfl) (Below.refl _ _).drew (fun hH => ?_)
      refine wpAnyH_take (i := 0) (v := .slice (some ⟨bb, o, none⟩) n c) rfl (by kernel_rfl) (by kernel_rfl) (by kernel_rfl) (fun _ _ _ h => h) (.inl ⟨by rfl, ?_⟩) (by assumption) ?_
      · intro W hW; go_simp
      try simp only [List.getElem_toArray, List.getElem_cons_zero, List.getElem_cons_succ, Act.put, List.setIfInBounds_toArray, List.set_cons_zero, List.set_cons_succ]
      refine wpAnyH_take (i := 1) (v := .int .i64 i) rfl (by kernel_rfl) (by kernel_rfl) (by kernel_rfl) (fun _ _ _ h => h) (.inl ⟨by rfl, ?_⟩) (by assumption) ?_
      · intro W hW; go_simp
      try simp only [List.getElem_toArray, List.getElem_cons_zero, List.getElem_cons_succ, Act.put, List.setIfInBounds_toArray, List.set_cons_zero, List.set_cons_succ]
      refine wpAnyH_take (i := 2) (v := .pointer (some ⟨bb, o + i * 26, none⟩)) rfl (by kernel_rfl) (by kernel_rfl) (by kernel_rfl) (fun _ _ _ h => h) (.inl ⟨by rfl, ?_⟩) (by assumption) ?_
      · intro W hW; go_simp
      try simp only [List.getElem_toArray, List.getElem_cons_zero, List.getElem_cons_succ, Act.put, List.setIfInBounds_toArray, List.set_cons_zero, List.set_cons_succ]
      refine wpAnyH_take (i := 3) (v := .pointer (some ⟨bb, o + i * 26, none⟩)) rfl (by kernel_rfl) (by kernel_rfl) (by kernel_rfl) (fun _ _ _ h => h) (.inl ⟨by rfl, ?_⟩) (by assumption) ?_
      · intro W hW; go_simp
      try simp only [List.getElem_toArray, List.getElem_cons_zero, List.getElem_cons_succ, Act.put, List.setIfInBounds_toArray, List.set_cons_zero, List.set_cons_succ]
      refine wpAnyH_take (i := 4) (v := .pointer (some ⟨bb, o + i * 26 + 6, none⟩)) rfl (by kernel_rfl) (by kernel_rfl) (by kernel_rfl) (fun _ _ _ h => h) (.inl ⟨by rfl, ?_⟩) (by assumption) ?_
      · intro W hW; go_simp
      try simp only [List.getElem_toArray, List.getElem_cons_zero, List.getElem_cons_succ, Act.put, List.setIfInBounds_toArray, List.set_cons_zero, List.set_cons_succ]
      refine wpAnyH_take (i := 5) (v := .agg (arr10 x.sp.sh)) rfl (by kernel_rfl) (by kernel_rfl) (by kernel_rfl) (fun _ _ _ h => h) (yields_arr10 (by rfl) (.tmp 67) rfl LN.out bb (o + i * 26 + 6) rfl (fun U hU => AR.out U hU)) (by assumption) ?_
      try simp only [List.getElem_toArray, List.getElem_cons_zero, List.getElem_cons_succ, Act.put, List.setIfInBounds_toArray, List.set_cons_zero, List.set_cons_succ]
      refine wpAnyH_take (i := 6) (v := .slice (some ⟨bb, o, none⟩) n c) rfl (by kernel_rfl) (by kernel_rfl) (by kernel_rfl) (fun _ _ _ h => h) (.inl ⟨by rfl, ?_⟩) (by assumption) ?_
      · intro W hW; go_simp
      try simp only [List.getElem_toArray, List.getElem_cons_zero, List.getElem_cons_succ, Act.put, List.setIfInBounds_toArray, List.set_cons_zero, List.set_cons_succ]
      refine wpAnyH_take (i := 7) (v := .int .i64 i) rfl (by kernel_rfl) (by kernel_rfl) (by kernel_rfl) (fun _ _ _ h => h) (.inl ⟨by rfl, ?_⟩) (by assumption) ?_
      · intro W hW; go_simp
      try simp only [List.getElem_toArray, List.getElem_cons_zero, List.getElem_cons_succ, Act.put, List.setIfInBounds_toArray, List.set_cons_zero, List.set_cons_succ]
      refine wpAnyH_take (i := 8) (v := .pointer (some ⟨bb, o + i * 26, none⟩)) rfl (by kernel_rfl) (by kernel_rfl) (by kernel_rfl) (fun _ _ _ h => h) (.inl ⟨by rfl, ?_⟩) (by assumption) ?_
      · intro W hW; go_simp
      try simp only [List.getElem_toArray, List.getElem_cons_zero, List.getElem_cons_succ, Act.put, List.setIfInBounds_toArray, List.set_cons_zero, List.set_cons_succ]
      refine wpAnyH_take (i := 9) (v := .pointer (some ⟨bb, o + i * 26 + 25, none⟩)) rfl (by kernel_rfl) (by kernel_rfl) (by kernel_rfl) (fun _ _ _ h => h) (.inl ⟨by rfl, ?_⟩) (by assumption) ?_
      · intro W hW; go_simp
      try simp only [List.getElem_toArray, List.getElem_cons_zero, List.getElem_cons_succ, Act.put, List.setIfInBounds_toArray, List.set_cons_zero, List.set_cons_succ]
      refine wpAnyH_take (i := 10) (v := .int .i64 q) rfl (by kernel_rfl) (by kernel_rfl) (by kernel_rfl) (fun _ _ _ h => h) (yields_q10 (by rfl) (.tmp 72) rfl bb (o + i * 26 + 25) rfl (fun U hU => CQ.out U hU)) (by assumption) ?_
      try simp only [List.getElem_toArray, List.getElem_cons_zero, List.getElem_cons_succ, Act.put, List.setIfInBounds_toArray, List.set_cons_zero, List.set_cons_succ]
      refine wpAnyH_ready (rs := [11]) (by decide +kernel) (by simp) (AllReadyH.cons rfl (fun KQ hK => ?_) AllReadyH.nil)
      go_simp
      refine (SC.out _).mono ?_; rintro e0 W6 ⟨rfl, q6⟩
      have hH := hH.trans (q6.mono hH.size)
      refine hK.out _ _ hH (fun _ => ?_)
      clear hK q6
      try simp only [List.getElem_toArray, List.getElem_cons_zero, List.getElem_cons_succ, Act.put, List.setIfInBounds_toArray, List.set_cons_zero, List.set_cons_succ]
      refine wpAnyH_take (i := 12) (v := .tuple #[.int .i64 ws, .int .i64 0]) rfl (by kernel_rfl) (by kernel_rfl) (by kernel_rfl) (fun _ _ _ h => h) (.inl ⟨by rfl, ?_⟩) (by assumption) ?_
      · intro W hW; go_simp
      try simp only [List.getElem_toArray, List.getElem_cons_zero, List.getElem_cons_succ, Act.put, List.setIfInBounds_toArray, List.set_cons_zero, List.set_cons_succ]
      refine wpAnyH_take (i := 13) (v := .int .i64 ws) rfl (by kernel_rfl) (by kernel_rfl) (by kernel_rfl) (fun _ _ _ h => h) (.inl ⟨by rfl, ?_⟩) (by assumption) ?_
      · intro W hW; go_simp
      try simp only [List.getElem_toArray, List.getElem_cons_zero, List.getElem_cons_succ, Act.put, List.setIfInBounds_toArray, List.set_cons_zero, List.set_cons_succ]
      refine wpAnyH_take (i := 14) (v := .int .i64 0) rfl (by kernel_rfl) (by kernel_rfl) (by kernel_rfl) (fun _ _ _ h => h) (.inl ⟨by rfl, ?_⟩) (by assumption) ?_
      · intro W hW; go_simp
      try simp only [List.getElem_toArray, List.getElem_cons_zero, List.getElem_cons_succ, Act.put, List.setIfInBounds_toArray, List.set_cons_zero, List.set_cons_succ]
      refine wpAnyH_take (i := 15) (v := .int .i64 ws) rfl (by kernel_rfl) (by kernel_rfl) (by kernel_rfl) (fun _ _ _ h => h) (.inl ⟨by rfl, ?_⟩) (by assumption) ?_
      · intro W hW; go_simp
      try simp only [List.getElem_toArray, List.getElem_cons_zero, List.getElem_cons_succ, Act.put, List.setIfInBounds_toArray, List.set_cons_zero, List.set_cons_succ]
      refine wpAnyH_take (i := 16) (v := .int .i64 0) rfl (by kernel_rfl) (by kernel_rfl) (by kernel_rfl) (fun _ _ _ h => h) (.inl ⟨by rfl, ?_⟩) (by assumption) ?_
      · intro W hW; go_simp
      try simp only [List.getElem_toArray, List.getElem_cons_zero, List.getElem_cons_succ, Act.put, List.setIfInBounds_toArray, List.set_cons_zero, List.set_cons_succ]
      refine wpAnyH_done (by decide +kernel) ?_ _
      have F7 := Lib.hid (gown_below F5.out hH)
      have O7 := Lib.hid (gown_below O5.out hH)
      have B7 := Lib.hid (B5.out.trans (hH.mono B5.out.size))
      have f22 := gown_fz F7.out (i * 26 + 22)
      have k22 := (gown_at F7.out (fo_at10 HX.out) (i := 22) (by decide)).trans (by rw [lq_sp (by decide), Sp.c22 LN.out] : (EL.cells x)[22]? = some (.int .i64 x.sp.cr))
      replace k22 : W6.cell? ⟨bf, i * 26 + 22, none⟩ = some (.int .i64 x.sp.cr) := k22
      obtain ⟨W8, hW8⟩ : ∃ W, W6.setCell ⟨bf, i * 26 + 22, none⟩ (.int .i64 0) = W := ⟨_, rfl⟩
      have F8 : Hid (EL.Own 34 W8 w2.heap.size (.slice (some ⟨bf, 0, none⟩) n ca) (fo10 l (i + 1))) := Lib.hid (by
        rw [← hW8, ← fo_set10 HX.out]
        exact gown_put F7.out (fo_at10 HX.out) (i := 22) (by decide) (fr_cells10 x))
      have O8 : Hid (EL.Own 34 W8 w2.heap.size (.slice A5' m5 c5) (l.reverse.take (i + 1))) := Lib.hid (by
        rw [← hW8]
        exact gown_same O7.out fun k hk => heap_setCell_other _ _ _ _ (fun e => A5.out k hk (by rw [e]; rfl)))
      have B8 : Hid (Below w2.heap.size w2 W8) := Lib.hid (by rw [← hW8]; exact B7.out.setCell hbf _)
      have HW8 := Lib.hid hW8
      clear hW8
      go_wp2_with (rw [HW8.out])
      go_roundw
      case rel => exact ⟨i + 1, _, _, hlt, by go_num, rfl, rfl, SS.out.symm, O8.out, F8.out, A5.out, B8.out⟩
      case measure => simp [intOf]; omega
end Go.Proofs.Ytgihmkdmcpcbeaa
