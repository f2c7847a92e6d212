/- A route's margin: the program's along, the document's route. -/
import Derived.Test.YtcpcnjiphiokjaaTd
namespace Go.Proofs.Ytcpcnjiphiokjaa
open Go.RowKit Go.Shelf
set_option linter.unusedVariables false
set_option linter.unusedSimpArgs false

theorem take_l10 {l : List Lq} {k : Nat} {x : Lq} (h : l[k]? = some x) : l.take (k + 1) = l.take k ++ [x] := by rw [List.take_add_one, h]; rfl
theorem scR_snoc {r : Int} {l : List Lq} {k : Nat} {x : Lq} (h : l[k]? = some x) : scR r (l.take (k + 1)) = scR r (l.take k) + fS r x := by unfold scR; rw [take_l10 h, sumL_app, sumL_one]
theorem loR_snoc {r : Int} {l : List Lq} {k : Nat} {x : Lq} (h : l[k]? = some x) : loR r (l.take (k + 1)) = loR r (l.take k) + fL r x := by unfold loR; rw [take_l10 h, sumL_app, sumL_one]
theorem soR_snoc {r : Int} {l : List Lq} {k : Nat} {x : Lq} (h : l[k]? = some x) : soR r (l.take (k + 1)) = soR r (l.take k) + fN r x := by unfold soR; rw [take_l10 h, sumL_app, sumL_one]
theorem raL_snoc {r : Int} {l : List Lq} {k : Nat} {x : Lq} (h : l[k]? = some x) : raL r (l.take (k + 1)) = if inR r x then min (raL r (l.take k)) x.sp.cr else raL r (l.take k) := by
  have := raL_le r (l.take k)
  rw [take_l10 h, raL_app]
  show min _ (if inR r x then min x.sp.cr 10000000 else 10000000) = _
  split <;> omega
/-- What has been summed up: four numbers. -/
structure Acc (r : Int) (l : List Lq) (s a b m : Int) : Prop where
  s : s = scR r l
  a : a = loR r l
  b : b = soR r l
  m : m = raL r l
theorem Acc.start (r : Int) (l : List Lq) : Acc r (l.take 0) 0 0 0 10000000 := ⟨rfl, rfl, rfl, rfl⟩
theorem Acc.out {r : Int} {l : List Lq} {k : Nat} {x : Lq} {s a b m : Int} (h : Acc r (l.take k) s a b m) (hx : l[k]? = some x) (hi : inR r x = false) : Acc r (l.take (k + 1)) s a b m := by
  obtain ⟨h1, h2, h3, h4⟩ := h
  refine ⟨?_, ?_, ?_, ?_⟩
  · rw [scR_snoc hx, h1, fS, if_neg (by rw [hi]; decide)]; omega
  · rw [loR_snoc hx, h2, fL, if_neg (by rw [hi]; decide)]; omega
  · rw [soR_snoc hx, h3, fN, if_neg (by rw [hi]; decide)]; omega
  · rw [raL_snoc hx, h4, if_neg (by rw [hi]; decide)]
theorem Acc.in {r : Int} {l : List Lq} {k : Nat} {x : Lq} {s a b m : Int} (h : Acc r (l.take k) s a b m) (hx : l[k]? = some x) (hi : inR r x = true) : Acc r (l.take (k + 1)) (s + wst x.sp.sh x.q) (a + max x.q 0) (b + max (-x.q) 0) (min m x.sp.cr) := by
  obtain ⟨h1, h2, h3, h4⟩ := h
  refine ⟨?_, ?_, ?_, ?_⟩
  · rw [scR_snoc hx, h1, fS, if_pos hi]
  · rw [loR_snoc hx, h2, fL, if_pos hi]
  · rw [soR_snoc hx, h3, fN, if_pos hi]
  · rw [raL_snoc hx, h4, if_pos hi]
theorem Acc.bd {r : Int} {l : List Lq} {s a b m : Int} (h : Acc r l s a b m) (hb : LegsB l) : (0 ≤ s ∧ s ≤ 1600000000000000) ∧ (0 ≤ a ∧ a ≤ 160000000) ∧ (0 ≤ b ∧ b ≤ 160000000) ∧ 0 ≤ m ∧ m ≤ 10000000 := by
  obtain ⟨rfl, rfl, rfl, rfl⟩ := h
  exact ⟨scR_bd hb r, loR_bd hb r, soR_bd hb r, raL_bd hb r⟩
theorem Acc.fin {r : Int} {l : List Lq} {s a b m : Int} (h : Acc r l s a b m) (hb : LegsB l) : (0 ≤ min a b * m ∧ min a b * m ≤ 1600000000000000) ∧ marR r l = max (s - min a b * m) 0 := by
  obtain ⟨rfl, rfl, rfl, rfl⟩ := h
  exact ⟨cre_bd hb r, rfl⟩
theorem inR_ro {r : Int} {x : Lq} (h : x.sp.ro ≠ r) : inR r x = false := by unfold inR; rw [decide_eq_false h]; rfl
theorem inR_q {r : Int} {x : Lq} (h : x.q = 0) : inR r x = false := by unfold inR; rw [show decide (x.q ≠ 0) = false from decide_eq_false (fun c => c h), Bool.and_false]
theorem inR_yes {r : Int} {x : Lq} (h : x.sp.ro = r) (h2 : x.q ≠ 0) : inR r x = true := by unfold inR; rw [decide_eq_true h, decide_eq_true h2]; rfl
/-- What a leg is that may be. -/
structure Leg1 (x : Lq) : Prop where
  sh : ShB x.sp.sh
  cr : 0 ≤ x.sp.cr ∧ x.sp.cr ≤ 10000000
  q : -10000000 ≤ x.q ∧ x.q ≤ 10000000
theorem leg1 {x : Lq} (h : legB x = true) : Leg1 x := ⟨legB_sh h, legB_cr h, (legB_iff.1 h).2⟩
set_option maxRecDepth 100000 in
set_option maxHeartbeats 4000000 in
theorem along10 (A : Option Addr) (n c : Nat) (l : List Lq) (r : Int) (w : World) (h : EL.Rd w A n l) (hb : LegsB l) (hok : ∀ x, x ∈ l → x.ok) (hr : 0 ≤ r ∧ r ≤ 255) :
    Calls Try.prog 43 #[.slice A n c, .int .u8 r] w fun e w' => e = .returned (.int .i64 (marR r l)) ∧ Below w.heap.size w w' := by
  have hz := zero_l10
  have HR := Lib.hid h
  have HB := Lib.hid hb
  have HK := Lib.hid hok
  have HL := Lib.hid h.1
  have hn : n ≤ 16 := by have := hb.1; have := h.1; omega
  obtain ⟨r1, r2⟩ := hr
  clear h hb hok
  go_enter Try.func43, Try.ntmps43
  go_wp2_with fail
  go_loopw [5, 6, 7, 8, 13] (fun vs va vb vm i wr => ∃ (k : Nat) (s a b m : Int), k ≤ n ∧ i = .int .i64 k ∧ vs = .int .i64 s ∧ va = .int .i64 a ∧ vb = .int .i64 b ∧ vm = .int .i64 m ∧ Acc r (l.take k) s a b m ∧ Below w.heap.size w wr) (fun _ _ _ _ i _ => n - (intOf i).toNat)
  case atStart => exact ⟨0, 0, 0, 0, 10000000, Nat.zero_le _, rfl, rfl, rfl, rfl, rfl, Acc.start r l, Below.refl _ _⟩
  case round =>
    obtain ⟨k, s, a, b, m, hk, rfl, rfl, rfl, rfl, rfl, hacc, hbw⟩ := hrel
    have AC := Lib.hid hacc
    have BW := Lib.hid hbw
    obtain ⟨⟨s1, s2⟩, ⟨a1, a2⟩, ⟨b1, b2⟩, m1, m2⟩ := hacc.bd (HB.out.take k)
    clear hacc hbw
    by_cases hlt : k < n
    case neg =>
      obtain rfl : k = n := by omega
      have E : Hid (l.take k = l) := Lib.hid (List.take_of_length_le (by rw [HL.out]; exact Nat.le_refl _))
      have AF := AC.out
      rw [E.out] at AF
      obtain ⟨⟨f1, f2⟩, f3⟩ := AF.fin HB.out
      have F3 := Lib.hid f3
      have g1 : -9223372036854775808 ≤ min a b * m := by omega
      have g2 : min a b * m ≤ 9223372036854775807 := by omega
      have g3 : -9223372036854775808 ≤ s - min a b * m := by omega
      have g4 : s - min a b * m ≤ 9223372036854775807 := by omega
      clear f1 f2 f3 AF
      go_wp2_with fail
      go_ret
      rw [F3.out]
      exact ⟨rfl, BW.out⟩
    case pos =>
      have hdk : decide ((k : Int) < n) = true := decide_eq_true (by omega)
      have hki : (k : Int) < (n : Int) := by omega
      obtain ⟨x, hx⟩ : ∃ x, l[k]? = some x := ⟨l[k]'(by have := HL.out; omega), List.getElem?_eq_getElem _⟩
      have OK := Lib.hid (HK.out x (List.mem_of_getElem? hx))
      have L1 := Lib.hid (leg1 (HB.out.2 x (List.mem_of_getElem? hx)))
      obtain ⟨bb, o, rfl, rg⟩ := rng_l10 HR.out BW.out (Nat.le_refl _) hx
      have RG := Lib.hid rg
      have HX := Lib.hid hx
      have X1 := Lib.hid (gbx_new (E := EL) (te := 30) wr zeroLq)
      obtain ⟨W2, hW2⟩ : ∃ W2, (wr.alloc (.cells (EL.cells zeroLq).toArray 30)).setRow wr.heap.size (EL.cells x).toArray = W2 := ⟨_, rfl⟩
      have x2 : EL.Bx 30 W2 wr.heap.size x := by rw [← hW2]; exact gbx_set X1.out
      have X2 := Lib.hid x2
      have B2 : Hid (Below w.heap.size w W2) := Lib.hid (by rw [← hW2]; exact BW.out.trans ((below_row0 (below_new _ _) (Nat.le_refl _)).mono BW.out.size))
      have c1 := bq_ro x2
      have c25 := bq_q x2
      have AR := Lib.hid (bq_arr x2)
      have HW2 := Lib.hid hW2
      have LN := Lib.hid x.len
      have AO := Lib.hid fun hi => AC.out.out HX.out hi
      have AI := Lib.hid fun hi => AC.out.in HX.out hi
      have IR := Lib.hid fun (h : x.sp.ro ≠ r) => inR_ro h
      have IQ := Lib.hid fun (h : x.q = 0) => inR_q (r := r) h
      have IY := Lib.hid fun (h : x.sp.ro = r) (h2 : x.q ≠ 0) => inR_yes h h2
      have o2 := OK.out.sp.ro
      obtain ⟨o2a, o2b⟩ := o2
      obtain ⟨q1, q2⟩ := L1.out.q
      obtain ⟨t1, t2⟩ := L1.out.cr
      have WO := Lib.hid fun W => worst10 x.sp.sh x.q W x.len L1.out.sh (by omega)
      have CR := Lib.hid fun (W : World) (q : Below W2.heap.size W2 W) => (show W.cell? ⟨wr.heap.size, 22, none⟩ = some (.int .i64 x.sp.cr) ∧ W.cell? ⟨wr.heap.size, 25, none⟩ = some (.int .i64 x.q) from ⟨bq_cr (gbx_below x2 q), bq_q (gbx_below x2 q)⟩)
      have ws0 := wst_pos x.sp.sh x.q
      have ws1 := wst_max (M := 10000000) L1.out.sh L1.out.q
      obtain ⟨ro, hro⟩ : ∃ ro, x.sp.ro = ro := ⟨_, rfl⟩
      obtain ⟨q, hq⟩ : ∃ q, x.q = q := ⟨_, rfl⟩
      obtain ⟨cr, hcr⟩ : ∃ cr, x.sp.cr = cr := ⟨_, rfl⟩
      obtain ⟨ws, hws⟩ : ∃ ws, wst x.sp.sh x.q = ws := ⟨_, rfl⟩
      rw [hws] at WO AI ws0 ws1
      rw [hro] at c1 IR IY o2a o2b
      rw [hq] at c25 IQ IY q1 q2 WO CR AI
      rw [hcr] at t1 t2 CR AI
      clear hx rg x2 hW2 hro hq hcr hws
      by_cases e1 : ro = r
      · by_cases e2 : q = 0
        · have d1 : (ro != r) = false := by rw [e1]; simp
          have AN := Lib.hid (AO.out (IQ.out e2))
          have d2 : (q == 0) = true := beq_iff_eq.2 e2
          clear e1 e2
          go_wp2_with (first | ((with_reducible refine gwl_load TL bb (o + k * 26) RG.out ?_ ?_ ?_); rfl; rfl) | (refine gwl_store TL x wr.heap.size X1.out rfl rfl ?_; rw [HW2.out]))
          go_roundw
          case rel => exact ⟨k + 1, s, a, b, m, hlt, by go_num, rfl, rfl, rfl, rfl, AN.out, B2.out⟩
          case measure => simp [intOf]; omega
        · have d1 : (ro != r) = false := by rw [e1]; simp
          have AN := Lib.hid (AI.out (IY.out e1 e2))
          have d2 : (q == 0) = false := beq_eq_false_iff_ne.2 e2
          have g1 : -9223372036854775808 ≤ a + max q 0 := by omega
          have g2 : a + max q 0 ≤ 9223372036854775807 := by omega
          have g3 : -9223372036854775808 ≤ b + max (-q) 0 := by omega
          have g4 : b + max (-q) 0 ≤ 9223372036854775807 := by omega
          clear e1 e2
          go_wp2_with (first | ((with_reducible refine gwl_load TL bb (o + k * 26) RG.out ?_ ?_ ?_); rfl; rfl) | (refine gwl_store TL x wr.heap.size X1.out rfl rfl ?_; rw [HW2.out]) | ((with_reducible refine wl_arr10 LN.out wr.heap.size 6 AR.out ?_ ?_ ?_); rfl; rfl))
          refine (WO.out _).mono ?_; rintro e w3 ⟨rfl, q3⟩
          have B3 := Lib.hid (B2.out.trans (q3.mono B2.out.size))
          obtain ⟨k22, k25⟩ := CR.out w3 q3
          clear q3
          go_wp2_with fail
          go_roundw
          case rel => exact ⟨k + 1, _, _, _, _, hlt, by go_num, rfl, rfl, rfl, rfl, AN.out, B3.out⟩
          case measure => simp [intOf]; omega
      · have d1 : (ro != r) = true := bne_iff_ne.2 e1
        have AN := Lib.hid (AO.out (IR.out e1))
        clear e1
        go_wp2_with (first | ((with_reducible refine gwl_load TL bb (o + k * 26) RG.out ?_ ?_ ?_); rfl; rfl) | (refine gwl_store TL x wr.heap.size X1.out rfl rfl ?_; rw [HW2.out]))
        go_roundw
        case rel => exact ⟨k + 1, s, a, b, m, hlt, by go_num, rfl, rfl, rfl, rfl, AN.out, B2.out⟩
        case measure => simp [intOf]; omega
end Go.Proofs.Ytcpcnjiphiokjaa
