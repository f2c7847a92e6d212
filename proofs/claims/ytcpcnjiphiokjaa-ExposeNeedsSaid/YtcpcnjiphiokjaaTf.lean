/- A route's margin: the document's. -/
import Derived.Test.YtcpcnjiphiokjaaTe
namespace Go.Proofs.Ytcpcnjiphiokjaa
open Go.RowKit Go.Shelf
set_option linter.unusedVariables false
set_option linter.unusedSimpArgs false

/-- The document's rate: -1, as long as there is none. -/
def raX (r : Int) (l : List Lq) : Int := if l.any (inR r) then raL r l else -1
theorem raX_out {r : Int} {l : List Lq} {k : Nat} {x : Lq} (hx : l[k]? = some x) (hi : inR r x = false) : raX r (l.take (k + 1)) = raX r (l.take k) := by
  unfold raX
  rw [raL_snoc hx, take_l10 hx, List.any_append, List.any_cons, List.any_nil, hi, if_neg (show ¬ (false = true) by decide)]
  simp
theorem raX_in {r : Int} {l : List Lq} {k : Nat} {x : Lq} (hx : l[k]? = some x) (hi : inR r x = true) (hb : LegsB (l.take k)) (hc : x.sp.cr ≤ 10000000) :
    raX r (l.take (k + 1)) = if raX r (l.take k) < 0 ∨ x.sp.cr < raX r (l.take k) then x.sp.cr else raX r (l.take k) := by
  have h0 := raL_bd hb r
  have hany : (l.take (k + 1)).any (inR r) = true := by rw [take_l10 hx, List.any_append, List.any_cons, hi]; simp
  unfold raX
  rw [hany, if_pos rfl, raL_snoc hx, if_pos hi]
  cases ha : (l.take k).any (inR r)
  · rw [if_neg (show ¬ (false = true) by decide), if_pos (.inl (by decide))]
    have hr : raL r (l.take k) = 10000000 := by
      have : ∀ m : List Lq, m.any (inR r) = false → raL r m = 10000000 := by
        intro m
        induction m with
        | nil => intro _; rfl
        | cons y t ih =>
          intro h
          rw [List.any_cons, Bool.or_eq_false_iff] at h
          unfold raL
          rw [if_neg (by rw [h.1]; decide), ih h.2]
      exact this _ ha
    rw [hr]; omega
  · rw [if_pos rfl]
    split <;> omega
theorem none_sum {r : Int} {f : Lq → Int} (hf : ∀ x, inR r x = false → f x = 0) : ∀ {l : List Lq}, l.any (inR r) = false → sumL f l = 0
  | [], _ => rfl
  | x :: l, h => by
    rw [List.any_cons, Bool.or_eq_false_iff] at h
    show f x + sumL f l = 0
    rw [hf x h.1, none_sum hf h.2]; rfl
/-- What has been summed up, the document's way. -/
structure AccX (r : Int) (l : List Lq) (s a b m : Int) : Prop where
  s : s = scR r l
  a : a = loR r l
  b : b = soR r l
  m : m = raX r l
theorem AccX.start (r : Int) (l : List Lq) : AccX r (l.take 0) 0 0 0 (-1) := ⟨rfl, rfl, rfl, rfl⟩
theorem AccX.out {r : Int} {l : List Lq} {k : Nat} {x : Lq} {s a b m : Int} (h : AccX r (l.take k) s a b m) (hx : l[k]? = some x) (hi : inR r x = false) : AccX r (l.take (k + 1)) s a b m := by
  obtain ⟨h1, h2, h3, h4⟩ := h
  refine ⟨?_, ?_, ?_, ?_⟩
  · rw [scR_snoc hx, h1, fS, if_neg (by rw [hi]; decide)]; omega
  · rw [loR_snoc hx, h2, fL, if_neg (by rw [hi]; decide)]; omega
  · rw [soR_snoc hx, h3, fN, if_neg (by rw [hi]; decide)]; omega
  · rw [raX_out hx hi, h4]
theorem AccX.in {r : Int} {l : List Lq} {k : Nat} {x : Lq} {s a b m : Int} (h : AccX r (l.take k) s a b m) (hx : l[k]? = some x) (hi : inR r x = true) (hb : LegsB (l.take k)) (hc : x.sp.cr ≤ 10000000) :
    (0 < x.q → (m < 0 ∨ x.sp.cr < m) → AccX r (l.take (k + 1)) (s + wst x.sp.sh x.q) (a + x.q) b x.sp.cr) ∧
    (0 < x.q → ¬ (m < 0 ∨ x.sp.cr < m) → AccX r (l.take (k + 1)) (s + wst x.sp.sh x.q) (a + x.q) b m) ∧
    (¬ 0 < x.q → (m < 0 ∨ x.sp.cr < m) → AccX r (l.take (k + 1)) (s + wst x.sp.sh x.q) a (b - x.q) x.sp.cr) ∧
    (¬ 0 < x.q → ¬ (m < 0 ∨ x.sp.cr < m) → AccX r (l.take (k + 1)) (s + wst x.sp.sh x.q) a (b - x.q) m) := by
  obtain ⟨h1, h2, h3, h4⟩ := h
  have e1 : s + wst x.sp.sh x.q = scR r (l.take (k + 1)) := by rw [scR_snoc hx, h1, fS, if_pos hi]
  have e2 : 0 < x.q → a + x.q = loR r (l.take (k + 1)) := fun c => by rw [loR_snoc hx, h2, fL, if_pos hi]; omega
  have e2' : ¬ 0 < x.q → a = loR r (l.take (k + 1)) := fun c => by rw [loR_snoc hx, h2, fL, if_pos hi]; omega
  have e3 : 0 < x.q → b = soR r (l.take (k + 1)) := fun c => by rw [soR_snoc hx, h3, fN, if_pos hi]; omega
  have e3' : ¬ 0 < x.q → b - x.q = soR r (l.take (k + 1)) := fun c => by rw [soR_snoc hx, h3, fN, if_pos hi]; omega
  have e4 := raX_in hx hi hb hc
  rw [← h4] at e4
  refine ⟨fun c d => ⟨e1, e2 c, e3 c, ?_⟩, fun c d => ⟨e1, e2 c, e3 c, ?_⟩, fun c d => ⟨e1, e2' c, e3' c, ?_⟩, fun c d => ⟨e1, e2' c, e3' c, ?_⟩⟩
  · rw [e4, if_pos d]
  · rw [e4, if_neg d]
  · rw [e4, if_pos d]
  · rw [e4, if_neg d]
theorem AccX.bd {r : Int} {l : List Lq} {s a b m : Int} (h : AccX r l s a b m) (hb : LegsB l) : (0 ≤ s ∧ s ≤ 1600000000000000) ∧ (0 ≤ a ∧ a ≤ 160000000) ∧ (0 ≤ b ∧ b ≤ 160000000) ∧ -1 ≤ m ∧ m ≤ 10000000 := by
  obtain ⟨rfl, rfl, rfl, rfl⟩ := h
  have := raL_bd hb r
  refine ⟨scR_bd hb r, loR_bd hb r, soR_bd hb r, ?_⟩
  unfold raX
  split <;> omega
theorem AccX.fin {r : Int} {l : List Lq} {s a b m : Int} (h : AccX r l s a b m) (hb : LegsB l) : (0 ≤ min a b * m ∧ min a b * m ≤ 1600000000000000) ∧ marR r l = max (s - min a b * m) 0 := by
  obtain ⟨rfl, rfl, rfl, rfl⟩ := h
  cases ha : l.any (inR r)
  · have h1 : scR r l = 0 := none_sum (fun x h => by rw [fS, if_neg (by rw [h]; decide)]) ha
    have h2 : loR r l = 0 := none_sum (fun x h => by rw [fL, if_neg (by rw [h]; decide)]) ha
    have h3 : soR r l = 0 := none_sum (fun x h => by rw [fN, if_neg (by rw [h]; decide)]) ha
    unfold marR
    rw [h1, h2, h3]
    simp
  · have e : raX r l = raL r l := by unfold raX; rw [ha, if_pos rfl]
    rw [e]
    exact ⟨cre_bd hb r, rfl⟩
set_option maxRecDepth 100000 in
set_option maxHeartbeats 8000000 in
theorem route10 (A : Option Addr) (n c : Nat) (l : List Lq) (r : Int) (w : World) (h : EL.Rd w A n l) (hb : LegsB l) (hok : ∀ x, x ∈ l → x.ok) (hr : 0 ≤ r ∧ r ≤ 255) :
    Calls Try.prog 48 #[.slice A n c, .int .u8 r] w fun e w' => e = .returned (.int .i64 (marR r l)) ∧ Below w.heap.size w w' := by
  have hz := zero_l10
  have HR := Lib.hid h
  have HB := Lib.hid hb
  have HK := Lib.hid hok
  have HL := Lib.hid h.1
  have hn : n ≤ 16 := by have := hb.1; have := h.1; omega
  obtain ⟨r1, r2⟩ := hr
  clear h hb hok
  go_enter Try.func48, Try.ntmps48
  go_wp2_with fail
  go_loopw [5, 6, 7, 8, 9] (fun vs va vb vm i wr => ∃ (k : Nat) (s a b m : Int), k ≤ n ∧ i = .int .i64 k ∧ vs = .int .i64 s ∧ va = .int .i64 a ∧ vb = .int .i64 b ∧ vm = .int .i64 m ∧ AccX r (l.take k) s a b m ∧ Below w.heap.size w wr) (fun _ _ _ _ i _ => n - (intOf i).toNat)
  case atStart => exact ⟨0, 0, 0, 0, -1, Nat.zero_le _, rfl, rfl, rfl, rfl, rfl, AccX.start r l, Below.refl _ _⟩
  case round =>
    obtain ⟨k, s, a, b, m, hk, rfl, rfl, rfl, rfl, rfl, hacc, hbw⟩ := hrel
    have AC := Lib.hid hacc
    have BW := Lib.hid hbw
    obtain ⟨⟨s1, s2⟩, ⟨a1, a2⟩, ⟨b1, b2⟩, m1, m2⟩ := hacc.bd (HB.out.take k)
    clear hacc hbw
    by_cases hlt : k < n
    case neg =>
      obtain rfl : k = n := by omega
      have E : Hid (l.take k = l) := Lib.hid (List.take_of_length_le (by rw [HL.out]; exact Nat.le_refl _))
      have AF := AC.out
      rw [E.out] at AF
      obtain ⟨⟨f1, f2⟩, f3⟩ := AF.fin HB.out
      have F3 := Lib.hid f3
      clear f3 AF
      by_cases e : b < a
      · have e' : min a b = b := by omega
        rw [e'] at f1 f2 F3
        have ed : decide (b < a) = true := decide_eq_true e
        clear e' e
        by_cases d : b * m < s
        · have dd : decide (b * m < s) = true := decide_eq_true d
          have R : Hid (s - b * m = marR r l) := Lib.hid (by rw [F3.out]; omega)
          go_wp2_with fail
          go_ret
          rw [← R.out]
          exact ⟨rfl, BW.out⟩
        · have dd : decide (b * m < s) = false := decide_eq_false d
          have R : Hid (0 = marR r l) := Lib.hid (by rw [F3.out]; omega)
          go_wp2_with fail
          go_ret
          rw [← R.out]
          exact ⟨rfl, BW.out⟩
      · have e' : min a b = a := by omega
        rw [e'] at f1 f2 F3
        have ed : decide (b < a) = false := decide_eq_false e
        clear e' e
        by_cases d : a * m < s
        · have dd : decide (a * m < s) = true := decide_eq_true d
          have R : Hid (s - a * m = marR r l) := Lib.hid (by rw [F3.out]; omega)
          go_wp2_with fail
          go_ret
          rw [← R.out]
          exact ⟨rfl, BW.out⟩
        · have dd : decide (a * m < s) = false := decide_eq_false d
          have R : Hid (0 = marR r l) := Lib.hid (by rw [F3.out]; omega)
          go_wp2_with fail
          go_ret
          rw [← R.out]
          exact ⟨rfl, BW.out⟩
    case pos =>
      have hdk : decide ((k : Int) < n) = true := decide_eq_true (by omega)
      have hki : (k : Int) < (n : Int) := by omega
      obtain ⟨x, hx⟩ : ∃ x, l[k]? = some x := ⟨l[k]'(by have := HL.out; omega), List.getElem?_eq_getElem _⟩
      have OK := Lib.hid (HK.out x (List.mem_of_getElem? hx))
      have L1 := Lib.hid (leg1 (HB.out.2 x (List.mem_of_getElem? hx)))
      obtain ⟨bb, o, rfl, rg⟩ := rng_l10 HR.out BW.out (Nat.le_refl _) hx
      have RG := Lib.hid rg
      have HX := Lib.hid hx
      have X1 := Lib.hid (gbx_new (E := EL) (te := 30) wr zeroLq)
      obtain ⟨W2, hW2⟩ : ∃ W2, (wr.alloc (.cells (EL.cells zeroLq).toArray 30)).setRow wr.heap.size (EL.cells x).toArray = W2 := ⟨_, rfl⟩
      have x2 : EL.Bx 30 W2 wr.heap.size x := by rw [← hW2]; exact gbx_set X1.out
      have B2 : Hid (Below w.heap.size w W2) := Lib.hid (by rw [← hW2]; exact BW.out.trans ((below_row0 (below_new _ _) (Nat.le_refl _)).mono BW.out.size))
      have c1 := bq_ro x2
      have c25 := bq_q x2
      have AR := Lib.hid (bq_arr x2)
      have HW2 := Lib.hid hW2
      have LN := Lib.hid x.len
      have AO := Lib.hid fun hi => AC.out.out HX.out hi
      have AI := Lib.hid fun hi => AC.out.in HX.out hi (HB.out.take k) L1.out.cr.2
      have IR := Lib.hid fun (h : x.sp.ro ≠ r) => inR_ro h
      have IQ := Lib.hid fun (h : x.q = 0) => inR_q (r := r) h
      have IY := Lib.hid fun (h : x.sp.ro = r) (h2 : x.q ≠ 0) => inR_yes h h2
      have o2 := OK.out.sp.ro
      obtain ⟨o2a, o2b⟩ := o2
      obtain ⟨q1, q2⟩ := L1.out.q
      obtain ⟨t1, t2⟩ := L1.out.cr
      have WO := Lib.hid fun W => rworst10 x.sp.sh x.q W x.len L1.out.sh (by omega)
      have CR := Lib.hid fun (W : World) (q : Below W2.heap.size W2 W) => (show W.cell? ⟨wr.heap.size, 22, none⟩ = some (.int .i64 x.sp.cr) ∧ W.cell? ⟨wr.heap.size, 25, none⟩ = some (.int .i64 x.q) from ⟨bq_cr (gbx_below x2 q), bq_q (gbx_below x2 q)⟩)
      have ws0 := wst_pos x.sp.sh x.q
      have ws1 := wst_max (M := 10000000) L1.out.sh L1.out.q
      obtain ⟨ro, hro⟩ : ∃ ro, x.sp.ro = ro := ⟨_, rfl⟩
      obtain ⟨q, hq⟩ : ∃ q, x.q = q := ⟨_, rfl⟩
      obtain ⟨cr, hcr⟩ : ∃ cr, x.sp.cr = cr := ⟨_, rfl⟩
      obtain ⟨ws, hws⟩ : ∃ ws, wst x.sp.sh x.q = ws := ⟨_, rfl⟩
      rw [hws] at WO AI ws0 ws1
      rw [hro] at c1 IR IY o2a o2b
      rw [hq] at c25 IQ IY q1 q2 WO CR AI
      rw [hcr] at t1 t2 CR AI
      clear hx rg x2 hW2 hro hq hcr hws
      by_cases e1 : ro = r
      · by_cases e2 : q = 0
        · have d1 : (ro != r) = false := by rw [e1]; simp
          have AN := Lib.hid (AO.out (IQ.out e2))
          have d2 : (q == 0) = true := beq_iff_eq.2 e2
          clear e1 e2
          go_wp2_with (first | ((with_reducible refine gwl_load TL bb (o + k * 26) RG.out ?_ ?_ ?_); rfl; rfl) | (refine gwl_store TL x wr.heap.size X1.out rfl rfl ?_; rw [HW2.out]))
          go_roundw
          case rel => exact ⟨k + 1, s, a, b, m, hlt, by go_num, rfl, rfl, rfl, rfl, AN.out, B2.out⟩
          case measure => simp [intOf]; omega
        · have d1 : (ro != r) = false := by rw [e1]; simp
          obtain ⟨n1, n2, n3, n4⟩ := AI.out (IY.out e1 e2)
          have d2 : (q == 0) = false := beq_eq_false_iff_ne.2 e2
          have N1 := Lib.hid n1
          have N2 := Lib.hid n2
          have N3 := Lib.hid n3
          have N4 := Lib.hid n4
          clear n1 n2 n3 n4 e1 e2
          obtain ⟨p, hp⟩ : ∃ p : Bool, decide (0 < q) = p := ⟨_, rfl⟩
          obtain ⟨f, hf⟩ : ∃ f : Bool, decide (m < 0) = f := ⟨_, rfl⟩
          obtain ⟨g, hg⟩ : ∃ g : Bool, decide (cr < m) = g := ⟨_, rfl⟩
          go_wp2_with (first | ((with_reducible refine gwl_load TL bb (o + k * 26) RG.out ?_ ?_ ?_); rfl; rfl) | (refine gwl_store TL x wr.heap.size X1.out rfl rfl ?_; rw [HW2.out]) | ((with_reducible refine wl_arr10 LN.out wr.heap.size 6 AR.out ?_ ?_ ?_); rfl; rfl))
          refine (WO.out _).mono ?_; rintro e w3 ⟨rfl, q3⟩
          have B3 := Lib.hid (B2.out.trans (q3.mono B2.out.size))
          obtain ⟨k22, k25⟩ := CR.out w3 q3
          clear q3
          cases p
          · have hp' := of_decide_eq_false hp
            cases f
            · have hf' := of_decide_eq_false hf
              cases g
              · have hg' := of_decide_eq_false hg
                have AN := Lib.hid (N4.out (by omega) (by omega))
                go_wp2_with fail
                go_roundw
                case rel => exact ⟨k + 1, _, _, _, _, hlt, by go_num, rfl, rfl, rfl, rfl, AN.out, B3.out⟩
                case measure => simp [intOf]; omega
              · have hg' := of_decide_eq_true hg
                have AN := Lib.hid (N3.out (by omega) (by omega))
                go_wp2_with fail
                go_roundw
                case rel => exact ⟨k + 1, _, _, _, _, hlt, by go_num, rfl, rfl, rfl, rfl, AN.out, B3.out⟩
                case measure => simp [intOf]; omega
            · have hf' := of_decide_eq_true hf
              have AN := Lib.hid (N3.out (by omega) (by omega))
              go_wp2_with fail
              go_roundw
              case rel => exact ⟨k + 1, _, _, _, _, hlt, by go_num, rfl, rfl, rfl, rfl, AN.out, B3.out⟩
              case measure => simp [intOf]; omega
          · have hp' := of_decide_eq_true hp
            cases f
            · have hf' := of_decide_eq_false hf
              cases g
              · have hg' := of_decide_eq_false hg
                have AN := Lib.hid (N2.out hp' (by omega))
                go_wp2_with fail
                go_roundw
                case rel => exact ⟨k + 1, _, _, _, _, hlt, by go_num, rfl, rfl, rfl, rfl, AN.out, B3.out⟩
                case measure => simp [intOf]; omega
              · have hg' := of_decide_eq_true hg
                have AN := Lib.hid (N1.out hp' (by omega))
                go_wp2_with fail
                go_roundw
                case rel => exact ⟨k + 1, _, _, _, _, hlt, by go_num, rfl, rfl, rfl, rfl, AN.out, B3.out⟩
                case measure => simp [intOf]; omega
            · have hf' := of_decide_eq_true hf
              have AN := Lib.hid (N1.out hp' (by omega))
              go_wp2_with fail
              go_roundw
              case rel => exact ⟨k + 1, _, _, _, _, hlt, by go_num, rfl, rfl, rfl, rfl, AN.out, B3.out⟩
              case measure => simp [intOf]; omega
      · have d1 : (ro != r) = true := bne_iff_ne.2 e1
        have AN := Lib.hid (AO.out (IR.out e1))
        clear e1
        go_wp2_with (first | ((with_reducible refine gwl_load TL bb (o + k * 26) RG.out ?_ ?_ ?_); rfl; rfl) | (refine gwl_store TL x wr.heap.size X1.out rfl rfl ?_; rw [HW2.out]))
        go_roundw
        case rel => exact ⟨k + 1, s, a, b, m, hlt, by go_num, rfl, rfl, rfl, rfl, AN.out, B2.out⟩
        case measure => simp [intOf]; omega
end Go.Proofs.Ytcpcnjiphiokjaa
