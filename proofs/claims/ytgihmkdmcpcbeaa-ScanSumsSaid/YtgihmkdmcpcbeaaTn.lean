/- Lists of one leg built; ScanRoutes, walked. -/
import Derived.Test.YtgihmkdmcpcbeaaTi
import Derived.Test.YtgihmkdmcpcbeaaTm
namespace Go.Proofs.Ytgihmkdmcpcbeaa
open Go.RowKit Go.Shelf
set_option linter.unusedVariables false
set_option linter.unusedSimpArgs false

theorem sixteen10 {α : Type} {l : List α} (h : l.length = 16) : ∃ a b c d e f g i j k m n o p q r, l = [a, b, c, d, e, f, g, i, j, k, m, n, o, p, q, r] := by
  match l, h with
  | [a, b, c, d, e, f, g, i, j, k, m, n, o, p, q, r], _ => exact ⟨a, b, c, d, e, f, g, i, j, k, m, n, o, p, q, r, rfl⟩
theorem fill_lq10 (x : Lq) : Instr.fill (fun i => some (i * 26, 26)) ((Array.range (1 * 26)).map ((Value.agg (EL.cells zeroLq).toArray).cells[· % (Value.agg (EL.cells zeroLq).toArray).cells.size]!)) [(0, .agg (EL.cells x).toArray)] = some (EL.cells x).toArray := by
  obtain ⟨⟨nu, ro, ti, lo, ba, li, sh, cr, la, fi⟩, q, h⟩ := x
  obtain ⟨a, b, c, d, e, f, g, i, j, k, m, n, o, p', q', r, rfl⟩ := sixteen10 h
  kernel_rfl
theorem wl_bs10 {ops : Array Oper} {rest : List Oper} {a : Act} {w : World} {Q : Exit → Act → World → Prop} {d : Option Nat} {y : Operand} {ty : TypeId} {ps : String} {af : Array Edge} {x : Lq} (hx : a.eval y = .agg (EL.cells x).toArray)
    (h : wpList Try.prog ops Q rest (a.put d (.slice (some ⟨w.heap.size, 0, none⟩) 1 1)) (w.alloc (.cells (EL.cells x).toArray 34))) :
    wpList Try.prog ops Q ({ dst := d, op := .buildSlice 28 1 #[(0, y)], type := ty, pos := ps, after := af, guard := none } :: rest) a w := by
  have hi : (Try.prog.info? 34).map (fun i => (i.zero, i.size, i.bytes)) = some (some (.agg (EL.cells zeroLq).toArray), 26, 200) := by kernel_rfl
  obtain ⟨ie, h1, h2, h3, _⟩ := info_parts hi
  refine wpList_buildSlice rfl 28 34 1 #[(0, y)] rfl (EL.cells x).toArray ie _ TL.und h1 h2 (by rw [h3]; decide) (by rw [h3]; decide) ?_ h
  rw [h3, show ((#[(0, y)] : Array (Nat × Operand)).map fun (i, x) => (i, a.eval x)).toList = [(0, a.eval y)] from by simp, hx]
  exact fill_lq10 x
theorem filter_snoc10 {l : List Lq} {k : Nat} {x : Lq} (p : Lq → Bool) (h : l[k]? = some x) : (l.take (k + 1)).filter p = if p x then (l.take k).filter p ++ [x] else (l.take k).filter p := by
  rw [take_l10 h, List.filter_append]
  cases hp : p x
  · rw [List.filter_cons_of_neg (by rw [hp]; decide)]; simp
  · rw [List.filter_cons_of_pos hp]; simp
set_option maxRecDepth 100000 in
set_option maxHeartbeats 8000000 in
theorem routes10_all (A : Option Addr) (n c : Nat) (l : List Lq) (q : Int) (w : World) (h : EL.Rd w A n l) (hok : ∀ x, x ∈ l → x.ok) (hn : n ≤ maxLen) (hq : 0 ≤ q ∧ q ≤ 255) :
    Calls Try.prog 8 #[.slice A n c, .int .u8 q] w fun e w' => e = .returned (.bool true) ∧ Below w.heap.size w w' := by
  have KN := Lib.hid fun (U : World) (qU : Below w.heap.size w U) => (known10 U).mono (fun e W h => (⟨h.1, qU.trans (h.2.mono qU.size)⟩ : e = .returned (.bool true) ∧ Below w.heap.size w W))
  have HR := Lib.hid fun (W : World) (q : Below w.heap.size w W) => (show EL.Rd W A n l from grd_below h q (Nat.le_refl _))
  have M0 := Lib.hid (margin10 A n c l w h hok hn)
  have HK := Lib.hid hok
  have HL := Lib.hid h.1
  obtain ⟨q1, q2⟩ := hq
  unfold maxLen at hn
  by_cases c1 : marE l = 0
  case neg =>
    have E := Lib.hid (marN_no c1)
    have c2 : (marE l != 0) = true := bne_iff_ne.2 c1
    rw [E.out] at M0
    generalize marE l = me at *
    clear h hok c1
    go_enter Try.func8, Try.ntmps8
    go_wp2_with fail
    refine M0.out.mono ?_; rintro e w2 ⟨rfl, q2⟩
    have Q2 := Lib.hid q2
    clear q2
    go_wp2_with fail
    refine (KN.out _ Q2.out).mono ?_; rintro e w3 ⟨rfl, q3⟩
    have Q3 := Lib.hid q3
    clear q3
    go_wp2_with fail
    go_ret
    exact ⟨rfl, Q3.out⟩
  obtain ⟨ra, rb, rs⟩ := routes10 c1 q
  have hn16 : n ≤ 16 := by have := (mar_ok c1).1; have := h.1; omega
  rw [c1] at M0
  have RA := Lib.hid ra
  have RB := Lib.hid rb
  have RS := Lib.hid rs
  have NA := Lib.hid (marN_bd (l := l.filter (upTo q)))
  have NB := Lib.hid (marN_bd (l := l.filter fun x => !upTo q x))
  clear h hok ra rb rs c1
  go_enter Try.func8, Try.ntmps8
  go_wp2_with fail
  refine M0.out.mono ?_; rintro e w1 ⟨rfl, q1'⟩
  have Q1 := Lib.hid q1'
  clear q1'
  go_wp2_with fail
  go_loopw [7, 8, 24] (fun va' vb' i wr => ∃ (k : Nat) (va vb : Value), k ≤ n ∧ i = .int .i64 k ∧ va = va' ∧ vb = vb' ∧ EL.Own 34 wr w1.heap.size va ((l.take k).filter (upTo q)) ∧ EL.Own 34 wr w1.heap.size vb ((l.take k).filter fun x => !upTo q x) ∧ (∀ j, va.ownBlock = some j → vb.ownBlock = some j → False) ∧ Below w1.heap.size w1 wr) (fun _ _ i _ => n - (intOf i).toNat)
  case atStart => exact ⟨0, _, _, Nat.zero_le _, rfl, rfl, rfl, gown_nil _ _, gown_nil _ _, (fun j h => by cases h), Below.refl _ _⟩
  case round =>
    obtain ⟨k, va, vb, hk, rfl, rfl, rfl, oa, ob, ap, hb⟩ := hrel
    have OA := Lib.hid oa
    have OB := Lib.hid ob
    have AP := Lib.hid ap
    have HB := Lib.hid hb
    have B0 := Lib.hid (Q1.out.trans (hb.mono Q1.out.size))
    clear oa ob ap hb
    by_cases hlt : k < n
    case neg =>
      obtain rfl : k = n := by omega
      have et : l.take k = l := List.take_of_length_le (by rw [HL.out]; exact Nat.le_refl _)
      rw [et] at OA OB
      clear et
      obtain ⟨Aa, ca, rfl, na⟩ := gown_form OA.out
      obtain ⟨Ab, cb, rfl, nb⟩ := gown_form OB.out
      have la : (l.filter (upTo q)).length ≤ 16 := by have := List.length_filter_le (upTo q) l; have := HL.out; omega
      have lb : (l.filter fun x => !upTo q x).length ≤ 16 := by have := List.length_filter_le (fun x => !upTo q x) l; have := HL.out; omega
      have MA := Lib.hid (margin10 Aa _ ca _ wr (gown_rd OA.out) (fun x hx => HK.out x (List.mem_filter.1 hx).1) (by unfold maxLen; omega))
      have MB := Lib.hid fun (W : World) (qW : Below wr.heap.size wr W) => margin10 Ab _ cb _ W (grd_below (gown_rd OB.out) qW (Nat.le_refl _)) (fun x hx => HK.out x (List.mem_filter.1 hx).1) (by unfold maxLen; omega)
      rw [RA.out] at MA
      rw [RB.out] at MB
      obtain ⟨a1, a2⟩ := NA.out
      obtain ⟨b1, b2⟩ := NB.out
      have S := RS.out
      generalize marN l = m0 at *
      generalize marN (l.filter (upTo q)) = ma at *
      generalize marN (l.filter fun x => !upTo q x) = mb at *
      generalize (l.filter (upTo q)).length = na' at *
      generalize (l.filter fun x => !upTo q x).length = nb' at *
      clear OA OB RS NA NB
      subst S
      go_wp2_with fail
      refine MA.out.mono ?_; rintro e w2 ⟨rfl, q2⟩
      have MB2 := Lib.hid (MB.out w2 q2)
      have B2 := Lib.hid (B0.out.trans (q2.mono B0.out.size))
      clear q2
      go_wp2_with fail
      refine MB2.out.mono ?_; rintro e w3 ⟨rfl, q3⟩
      have B3 := Lib.hid (B2.out.trans (q3.mono B2.out.size))
      clear q3
      go_wp2_with fail
      refine (KN.out _ B3.out).mono ?_; rintro e w4 ⟨rfl, q4⟩
      have Q4 := Lib.hid q4
      clear q4
      go_wp2_with fail
      go_ret
      exact ⟨rfl, Q4.out⟩
    case pos =>
      have hdk : decide ((k : Int) < n) = true := decide_eq_true (by omega)
      have hki : (k : Int) < (n : Int) := by omega
      obtain ⟨x, hx⟩ : ∃ x, l[k]? = some x := ⟨l[k]'(by have := HL.out; omega), List.getElem?_eq_getElem _⟩
      obtain ⟨bb, o, rfl, rg⟩ := grd_rng (HR.out wr B0.out) hx
      replace rg : wr.rangeAt bb (o + k * 26) (EL.cells x) := rg
      have RG := Lib.hid rg
      have k1 := rq_ro rg
      have HX := Lib.hid hx
      have o2 := (HK.out x (List.mem_of_getElem? hx)).sp.ro
      obtain ⟨o2a, o2b⟩ := o2
      have FA := Lib.hid (filter_snoc10 (upTo q) hx)
      have FB := Lib.hid (filter_snoc10 (fun x => !upTo q x) hx)
      obtain ⟨WX, hWX⟩ : ∃ W, wr.alloc (.cells (EL.cells x).toArray 34) = W := ⟨_, rfl⟩
      have X1 : Hid (EL.Bx 34 WX wr.heap.size x) := Lib.hid (by rw [← hWX]; exact gbx_new wr x)
      have BX : Hid (Below wr.heap.size wr WX) := Lib.hid (by rw [← hWX]; exact below_new _ _)
      have HWX := Lib.hid hWX
      have OA2 := Lib.hid (gown_below OA.out BX.out)
      have OB2 := Lib.hid (gown_below OB.out BX.out)
      have VA : Hid (∀ j, va.ownBlock = some j → j < WX.heap.size) := Lib.hid fun j hj => (gown_lt OA2.out hj).2
      have VB : Hid (∀ j, vb.ownBlock = some j → j < WX.heap.size) := Lib.hid fun j hj => (gown_lt OB2.out hj).2
      have LA : ((l.take k).filter (upTo q)).length ≤ 16 := by have := List.length_filter_le (upTo q) (l.take k); have := List.length_take_le k l; omega
      have LB : ((l.take k).filter fun x => !upTo q x).length ≤ 16 := by have := List.length_filter_le (fun x => !upTo q x) (l.take k); have := List.length_take_le k l; omega
      have BS : Hid (w1.heap.size ≤ WX.heap.size) := Lib.hid (by have := HB.out.size; have := BX.out.size; omega)
      cases cu : decide (x.sp.ro ≤ q)
      · have hu : upTo q x = false := cu
        rw [hu] at FA FB
        generalize x.sp.ro = ro at *
        clear hx rg hWX hu
        go_wp2_with (first | ((with_reducible refine gwl_load TL bb (o + k * 26) RG.out ?_ ?_ ?_); rfl; rfl) | ((with_reducible refine wl_bs10 (x := x) ?_ ?_); rfl; rw [HWX.out]) | (at_builtin; refine gpl_app TL rfl _ _ rfl w1.heap.size vb _ rfl OB2.out _ 1 1 [x] rfl (gbx_rd X1.out) (fun e => by cases e) (by omega) BS.out ?_; intro v' w' h1 h2 h3))
        have O1 : Hid (EL.Own 34 w' w1.heap.size v' ((l.take (k + 1)).filter fun x => !upTo q x)) := Lib.hid (by rw [FB.out]; exact h1)
        have O2 : Hid (EL.Own 34 w' w1.heap.size va ((l.take (k + 1)).filter (upTo q))) := Lib.hid (by
          rw [FA.out]
          exact gown_same OA2.out fun j hj => h2.block j (VA.out j hj) (fun e => AP.out j hj e.symm))
        have A2 : Hid (∀ j, va.ownBlock = some j → v'.ownBlock = some j → False) := Lib.hid fun j hj hj' => by
          rcases h3 with e | e
          · exact AP.out j hj (by rw [← e]; exact hj')
          · rw [e] at hj'; cases hj'; have := VA.out _ hj; omega
        have B2 : Hid (Below w1.heap.size w1 w') := Lib.hid ((HB.out.trans (BX.out.mono HB.out.size)).grown h2 BS.out (fun j e => (gown_lt OB2.out e).1))
        clear h1 h2 h3
        go_roundw
        case rel => exact ⟨k + 1, va, v', hlt, by go_num, rfl, rfl, O2.out, O1.out, A2.out, B2.out⟩
        case measure => simp [intOf]; omega
      · have hu : upTo q x = true := cu
        rw [hu] at FA FB
        generalize x.sp.ro = ro at *
        clear hx rg hWX hu
        go_wp2_with (first | ((with_reducible refine gwl_load TL bb (o + k * 26) RG.out ?_ ?_ ?_); rfl; rfl) | ((with_reducible refine wl_bs10 (x := x) ?_ ?_); rfl; rw [HWX.out]) | (at_builtin; refine gpl_app TL rfl _ _ rfl w1.heap.size va _ rfl OA2.out _ 1 1 [x] rfl (gbx_rd X1.out) (fun e => by cases e) (by omega) BS.out ?_; intro v' w' h1 h2 h3))
        have O1 : Hid (EL.Own 34 w' w1.heap.size v' ((l.take (k + 1)).filter (upTo q))) := Lib.hid (by rw [FA.out]; exact h1)
        have O2 : Hid (EL.Own 34 w' w1.heap.size vb ((l.take (k + 1)).filter fun x => !upTo q x)) := Lib.hid (by
          rw [FB.out]
          exact gown_same OB2.out fun j hj => h2.block j (VB.out j hj) (fun e => AP.out j e.symm hj))
        have A2 : Hid (∀ j, v'.ownBlock = some j → vb.ownBlock = some j → False) := Lib.hid fun j hj' hj => by
          rcases h3 with e | e
          · exact AP.out j (by rw [← e]; exact hj') hj
          · rw [e] at hj'; cases hj'; have := VB.out _ hj; omega
        have B2 : Hid (Below w1.heap.size w1 w') := Lib.hid ((HB.out.trans (BX.out.mono HB.out.size)).grown h2 BS.out (fun j e => (gown_lt OA2.out e).1))
        clear h1 h2 h3
        go_roundw
        case rel => exact ⟨k + 1, v', vb, hlt, by go_num, rfl, rfl, O1.out, O2.out, A2.out, B2.out⟩
        case measure => simp [intOf]; omega
end Go.Proofs.Ytgihmkdmcpcbeaa
