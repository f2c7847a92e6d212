/- The program's From. -/
import Derived.Test.YthnmpnepgagmmaaPc
import Derived.Test.YthnmpnepgagmmaaPd
import Derived.Test.YthnmpnepgagmmaaPe
namespace Go.Proofs.Ythnmpnepgagmmaa
open Go.RowKit Go.Shelf
set_option linter.unusedVariables false
set_option linter.unusedSimpArgs false

/-- The accounts may be; the positions may be, given the accounts. -/
def okA (fund : Int) (al : List Ac) : Bool := (decide (al.length ≤ 64) && riseB 0 al) && fmB fund al
def okP (fund : Int) (al : List Ac) (hl : List Po) : Bool := (chB none hl && !hl.any (notP ⟨fund, al, []⟩)) && evenB hl
def fromB (fund : Int) (al : List Ac) (hl : List Po) : Bool := okA fund al && okP fund al hl
theorem lay_low {α : Type} (ge ne : α → Bool) (a : α) : ∀ l : List α, (∀ y, y ∈ l → ge y = false ∧ ne y = true) → layF ge ne a l false = l ++ [a]
  | [], _ => rfl
  | x :: r, h => by
    obtain ⟨h1, h2⟩ := h x (List.mem_cons_self ..)
    rw [lay_cons, h1, h2, Bool.false_or, lay_low ge ne a r fun y hy => h y (List.mem_cons_of_mem _ hy)]
    rfl
theorem cash_mem : ∀ {al : List Ac}, (∀ a, a ∈ al → 0 ≤ a.ca) → ∀ a, a ∈ al → a.ca ≤ cashL al
  | x :: t, h, a, ha => by
    have h2 := cash_nn (al := t) fun a ha => h a (List.mem_cons_of_mem _ ha)
    have h1 := h x (List.mem_cons_self ..)
    rw [cash_cons]
    rcases List.mem_cons.1 ha with rfl | ha
    · omega
    · have := cash_mem (al := t) (fun a ha => h a (List.mem_cons_of_mem _ ha)) a ha; omega
theorem okA_inv {fund : Int} {al : List Ac} (h : okA fund al = true) (hok : ∀ a, a ∈ al → a.ok) : LgI ⟨fund, al, []⟩ := by
  simp only [okA, fmB, Bool.and_eq_true, decide_eq_true_eq, List.all_eq_true] at h
  obtain ⟨⟨h1, h2⟩, ⟨h3, h4⟩, h5⟩ := h
  have c0 := cash_nn h4
  refine ⟨by simp only [mF]; omega, fun a ha => ?_, rise_srt h2, h1, List.Pairwise.nil, (fun p hp => nomatch hp), (fun p hp => nomatch hp)⟩
  have e1 := rise_lt h2 a ha
  have e2 := (hok a ha).nu
  have e3 := h4 a ha
  have e4 := cash_mem h4 a ha
  simp only [mF]
  omega
theorem okP_inv {fund : Int} {al : List Ac} {hl : List Po} (hi : LgI ⟨fund, al, []⟩) (h : okP fund al hl = true) (hok : ∀ p, p ∈ hl → p.ok) : LgI ⟨fund, al, hl⟩ := by
  simp only [okP, Bool.and_eq_true] at h
  obtain ⟨⟨h1, h2⟩, h3⟩ := h
  have hn : ∀ p, p ∈ hl → notP ⟨fund, al, []⟩ p = false := fun p hp => by
    cases e : notP ⟨fund, al, []⟩ p
    · rfl
    · rw [List.any_eq_true.2 ⟨p, hp, e⟩] at h2; cases h2
  have hp4 : ∀ p, p ∈ hl → (p.co ≠ 0 ∧ p.ac ≠ 0) ∧ thereB ⟨fund, al, []⟩ p.ac = true ∧ goneP p = false ∧ inB p = true := fun p hp => by
    have := hn p hp
    unfold notP at this
    simp only [Bool.or_eq_false_iff, Bool.not_eq_false', beq_eq_false_iff_ne] at this
    exact ⟨this.1.1.1, this.1.1.2, this.1.2, this.2⟩
  refine ⟨hi.fund, hi.aok, hi.asr, hi.len, ch_srt h1, fun p hp => ?_, fun p hp => ?_⟩
  · obtain ⟨⟨e1, e2⟩, e3, e4, e5⟩ := hp4 p hp
    have o := hok p hp
    have o1 := o.co
    have o2 := o.ac
    simp only [inB, Bool.and_eq_true, decide_eq_true_eq] at e5
    exact ⟨⟨⟨by omega, o1.2⟩, by omega, o2.2⟩, ⟨⟨e5.1.1, e5.1.2⟩, e5.2.1, e5.2.2⟩, e4⟩
  · obtain ⟨⟨e1, e2⟩, e3, e4, e5⟩ := hp4 p hp
    unfold thereB at e3
    rcases getL_cases ⟨fund, al, []⟩ p.ac with ⟨c, _⟩ | ⟨_, _, c⟩ | ⟨a, _, _, ha, ea, _⟩
    · exact absurd c e2
    · rw [c] at e3; cases e3
    · exact ⟨a, ha, ea⟩
theorem inv_takeA {f : Int} {al : List Ac} (h : LgI ⟨f, al, []⟩) (k : Nat) : LgI ⟨f, al.take k, []⟩ :=
  ⟨h.fund, fun a ha => h.aok a (List.mem_of_mem_take ha), h.asr.sublist (List.take_sublist _ _), by show (al.take k).length ≤ 64; rw [List.length_take]; have : al.length ≤ 64 := h.len; omega, List.Pairwise.nil, (fun p hp => nomatch hp), (fun p hp => nomatch hp)⟩
theorem inv_takeP {f : Int} {al : List Ac} {hl : List Po} (h : LgI ⟨f, al, hl⟩) (k : Nat) : LgI ⟨f, al, hl.take k⟩ :=
  ⟨h.fund, h.aok, h.asr, h.len, h.psr.sublist (List.take_sublist _ _), fun p hp => h.pok p (List.mem_of_mem_take hp), fun p hp => h.held p (List.mem_of_mem_take hp)⟩
theorem take_snoc9 {α : Type} {l : List α} {k : Nat} {x : α} (h : l[k]? = some x) : l.take (k + 1) = l.take k ++ [x] := by rw [List.take_add_one, h]; rfl
theorem pw_take {α : Type} {R : α → α → Prop} {l : List α} {k : Nat} {x : α} (h : l.Pairwise R) (hx : l[k]? = some x) : ∀ y, y ∈ l.take k → R y x := by
  have h1 : (l.take (k + 1)).Pairwise R := h.sublist (List.take_sublist _ _)
  rw [take_snoc9 hx] at h1
  exact fun y hy => (List.pairwise_append.1 h1).2.2 y hy x (List.mem_singleton.2 rfl)
theorem set_take {f : Int} {al : List Ac} (h : LgI ⟨f, al, []⟩) {k : Nat} {x : Ac} (hx : al[k]? = some x) : setA ⟨f, al.take k, []⟩ x = ⟨f, al.take (k + 1), []⟩ := by
  have h0 := (h.aok x (List.mem_of_getElem? hx)).1
  unfold setA
  rw [if_neg (by omega)]
  have : putL (al.take k) x = al.take (k + 1) := by
    rw [take_snoc9 hx]
    unfold putL
    refine lay_low _ _ _ _ fun y hy => ?_
    have := pw_take (R := fun x y : Ac => x.nu < y.nu) h.asr hx y hy
    refine ⟨decide_eq_false (by omega), ?_⟩
    unfold neA
    simp; omega
  rw [this]
theorem hold_take {f : Int} {al : List Ac} {hl : List Po} (h : LgI ⟨f, al, hl⟩) {k : Nat} {x : Po} (hx : hl[k]? = some x) : holdL (hl.take k) x = hl.take (k + 1) := by
  have h0 := (h.pok x (List.mem_of_getElem? hx)).2.2
  rw [take_snoc9 hx]
  unfold holdL
  rw [h0]
  refine lay_low _ _ _ _ fun y hy => ?_
  have : ltP y x := pw_take (R := ltP) h.psr hx y hy
  unfold ltP at this
  unfold geP neP
  refine ⟨?_, ?_⟩
  · simp; omega
  · simp; omega
set_option maxRecDepth 100000 in
set_option maxHeartbeats 16000000 in
theorem lfrom9 (A A' : Option Addr) (n c n' c' : Nat) (fund : Int) (al : List Ac) (hl : List Po) (w : World) (h : EA.Rd w A n al) (h' : EP.Rd w A' n' hl) (hf : I64 fund) (hok : ∀ a, a ∈ al → a.ok) (hok' : ∀ p, p ∈ hl → p.ok) (hn : n ≤ 100) (hn' : n' ≤ 200) :
    Calls Try.prog 25 #[.int .i64 fund, .slice A n c, .slice A' n' c'] w fun e w' => Below w.heap.size w w' ∧
      ((fromB fund al hl = false ∧ e = .returned (.tuple #[.pointer none, .int .i64 2])) ∨
       (fromB fund al hl = true ∧ ∃ g ba bp, e = .returned (.tuple #[.pointer (some ⟨g, 0, none⟩), .int .i64 0]) ∧ Dl w' g ba bp ⟨fund, al, hl⟩ ∧ ∀ k, LdS g ba bp k → w.heap.size ≤ k)) := by
  have HR := Lib.hid h
  have HR' := Lib.hid h'
  have hz := zero_ac
  have hz2 := zero_po
  have HN : Hid (al.length = n) := Lib.hid h.1
  have HN' : Hid (hl.length = n') := Lib.hid h'.1
  have HOK := Lib.hid hok
  have HOK' := Lib.hid hok'
  have NR := Lib.hid (lnr9 A n c al w h hn)
  have FM := Lib.hid (fun (U : World) (q : Below w.heap.size w U) => lfm9 A n c fund al U (grd_below h q (Nat.le_refl _)) hf hok hn)
  have NW := Lib.hid (fun U => lnew9 U)
  have IA : Hid (okA fund al = true → LgI ⟨fund, al, []⟩) := Lib.hid fun e => okA_inv e hok
  have EF : Hid (∀ t, okA fund al = false → t = false → True) := Lib.hid fun _ _ _ => trivial
  have EA0 : Hid (okA fund al = ((decide (n ≤ 64) && riseB 0 al) && fmB fund al)) := Lib.hid (by rw [← h.1]; rfl)
  have NO : Hid (okA fund al = false → fromB fund al hl = false) := Lib.hid fun e => by unfold fromB; rw [e]; rfl
  obtain ⟨r1, hr1⟩ : ∃ r, riseB 0 al = r := ⟨_, rfl⟩
  obtain ⟨r2, hr2⟩ : ∃ r, fmB fund al = r := ⟨_, rfl⟩
  rw [hr1] at NR EA0
  rw [hr2] at FM EA0
  clear h h' hok hok' hr1 hr2 EF hf
  go_enter Try.func25, Try.ntmps25
  by_cases h64 : n ≤ 64
  case neg =>
    have hd : decide (64 < (n : Int)) = true := decide_eq_true (by omega)
    have E : Hid (fromB fund al hl = false) := Lib.hid (NO.out (by rw [EA0.out, decide_eq_false h64]; rfl))
    clear h64
    go_wp2_with fail
    go_ret2
    exact ⟨Below.refl _ _, .inl ⟨E.out, rfl⟩⟩
  have hd : decide (64 < (n : Int)) = false := decide_eq_false (by omega)
  rw [decide_eq_true h64, Bool.true_and] at EA0
  go_wp2_with fail
  refine NR.out.mono ?_; rintro e w1 ⟨rfl, q1⟩
  have Q1 := Lib.hid q1
  clear q1
  cases r1
  case false =>
    have E : Hid (fromB fund al hl = false) := Lib.hid (NO.out (by rw [EA0.out]; rfl))
    go_wp2_with fail
    go_ret2
    exact ⟨Q1.out, .inl ⟨E.out, rfl⟩⟩
  go_wp2_with fail
  refine (FM.out w1 Q1.out).mono ?_; rintro e w2 ⟨rfl, q2⟩
  have Q2 := Lib.hid (Q1.out.trans (q2.mono Q1.out.size))
  clear q2
  cases r2
  case false =>
    have E : Hid (fromB fund al hl = false) := Lib.hid (NO.out (by rw [EA0.out]; rfl))
    go_wp2_with fail
    go_ret2
    exact ⟨Q2.out, .inl ⟨E.out, rfl⟩⟩
  have OA : Hid (okA fund al = true) := Lib.hid (by rw [EA0.out]; rfl)
  have INV := Lib.hid (IA.out OA.out)
  clear EA0 IA NO NR FM
  go_wp2_with fail
  refine (NW.out w2).mono ?_; rintro e w3 ⟨g, ba, bp, rfl, d3, q3, n3⟩
  have c0 := d3.c0
  have f0 := d3.fz 0
  have D4 : Hid (Dl (w3.setCell ⟨g, 0, none⟩ (.int .i64 fund)) g ba bp ⟨fund, [], []⟩) := Lib.hid (by
    have f := Fr.set (S := fun k => k = g) (W := w3) (p := ⟨g, 0, none⟩) rfl (.int .i64 fund)
    exact ⟨heap_setCell_same w3 g 0 _ _ _ d3.blk, d3.ma.fr f (Ne.symm d3.na), d3.mp.fr f (Ne.symm d3.np), d3.ne, inv_takeA INV.out 0⟩)
  have NN : Hid (∀ k, LdS g ba bp k → w.heap.size ≤ k) := Lib.hid fun k hk => Nat.le_trans Q2.out.size (n3 k hk)
  have Q4 : Hid (Below w.heap.size w (w3.setCell ⟨g, 0, none⟩ (.int .i64 fund))) := Lib.hid ((Q2.out.trans (q3.mono Q2.out.size)).setCell (NN.out g (.inl rfl)) _)
  clear d3 q3 n3 NW
  go_wp2_with fail
  obtain ⟨V, hV⟩ : ∃ V, w3.setCell ⟨g, 0, none⟩ (.int .i64 fund) = V := ⟨_, rfl⟩
  rw [hV] at D4 Q4 ⊢
  clear hV c0 f0 h64 hd
  go_loopw [34] (fun i wr => ∃ k : Nat, k ≤ n ∧ i = .int .i64 k ∧ Dl wr g ba bp ⟨fund, al.take k, []⟩ ∧ Below w.heap.size w wr) (fun i _ => n - (intOf i).toNat)
  case atStart => exact ⟨0, Nat.zero_le _, rfl, D4.out, Q4.out⟩
  case round =>
    obtain ⟨k, hk, rfl, hD, hB⟩ := hrel
    have HD := Lib.hid hD
    have HB := Lib.hid hB
    clear hD hB
    by_cases hlt : k < n
    case pos =>
      have hd : decide ((k : Int) < n) = true := decide_eq_true (by omega)
      have hki : (k : Int) < (n : Int) := by omega
      obtain ⟨x, hx⟩ : ∃ x, al[k]? = some x := ⟨al[k]'(by have := HN.out; omega), List.getElem?_eq_getElem _⟩
      obtain ⟨b, o, rfl, rg⟩ := grd_rng HR.out hx
      have RG : Hid (wr.rangeAt b (o + k * 4) (EA.cells x)) := Lib.hid (rng_below rg HB.out (Nat.le_refl _))
      have ST : Hid (setA ⟨fund, al.take k, []⟩ x = ⟨fund, al.take (k + 1), []⟩) := Lib.hid (set_take INV.out hx)
      obtain ⟨W2, hW2, b2, z2⟩ := newA9 wr
      obtain ⟨W3, hW3⟩ : ∃ W3, W2.setRow wr.heap.size (EA.cells x).toArray = W3 := ⟨_, rfl⟩
      have Z2 := Lib.hid z2
      have HW2 := Lib.hid hW2
      have HW3 := Lib.hid hW3
      have x3 : EA.Bx 33 W3 wr.heap.size x := hW3 ▸ gbx_set z2
      have b3 : Below wr.heap.size wr W3 := by rw [← hW3]; exact below_row0 b2 (Nat.le_refl _)
      have B3 := Lib.hid b3
      have R3 := Lib.hid (gbx_rng x3)
      have PU := Lib.hid (lput9 x W3 (HD.out.below b3) (HOK.out x (List.mem_of_getElem? hx)).nu (by rw [ST.out]; exact inv_takeA INV.out (k + 1)))
      rw [ST.out] at PU
      clear hx rg hW2 z2 hW3 x3 b3 b2
      go_wp2_with (first | ((with_reducible refine gwl_load TA b (o + k * 4) RG.out ?_ ?_ ?_); rfl; rfl) | (rw [HW2.out]; refine gwl_store TA x wr.heap.size Z2.out rfl rfl ?_; rw [HW3.out]) | ((with_reducible refine gwl_load TA wr.heap.size 0 R3.out ?_ ?_ ?_); rfl; rfl))
      refine PU.out.mono ?_; rintro e w5 ⟨rfl, d5, f5⟩
      have D5 := Lib.hid d5
      have Q5 : Hid (Below w.heap.size w w5) := Lib.hid (below_frP (HB.out.trans (B3.out.mono HB.out.size)) f5 (fun j hj hl => by have := NN.out j hl; omega))
      clear d5 f5 PU
      go_wp2_with fail
      go_roundw
      case rel => exact ⟨k + 1, hlt, by go_num, D5.out, Q5.out⟩
      case measure => simp only [intOf]; omega
    case neg =>
      obtain rfl : k = n := by omega
      have hd : decide ((k : Int) < (k : Int)) = false := by simp
      have D1 : Hid (Dl wr g ba bp ⟨fund, al, []⟩) := Lib.hid (by have := HD.out; rwa [List.take_of_length_le (by rw [HN.out]; exact Nat.le_refl _)] at this)
      have PR := Lib.hid (lpr9 A' n' c' hl wr (grd_below HR'.out HB.out (Nat.le_refl _)) hn')
      have CN := Lib.hid (fun (U : World) (q : Below wr.heap.size wr U) => contains_p9 50 #[.pointer (some ⟨g, 0, none⟩)] (notP ⟨fund, al, []⟩) A' n' c' hl U (fun args w => by go_simp) (not_p9 (D1.out.below q)) (grd_below HR'.out (HB.out.trans (q.mono HB.out.size)) (Nat.le_refl _)) HOK'.out (by omega))
      have EV := Lib.hid (fun (U : World) (q : Below wr.heap.size wr U) => levn9 A' n' c' hl U (grd_below HR'.out (HB.out.trans (q.mono HB.out.size)) (Nat.le_refl _)) (fun p hp => (HOK'.out p hp).co) hn')
      have EP0 : Hid (fromB fund al hl = ((chB none hl && !hl.any (notP ⟨fund, al, []⟩)) && evenB hl)) := Lib.hid (by unfold fromB; rw [OA.out]; rfl)
      have IP : Hid (fromB fund al hl = true → LgI ⟨fund, al, hl⟩) := Lib.hid (fun e => okP_inv INV.out (by unfold fromB at e; rw [OA.out] at e; exact e) HOK'.out)
      obtain ⟨s1, hs1⟩ : ∃ r, chB none hl = r := ⟨_, rfl⟩
      obtain ⟨s2, hs2⟩ : ∃ r, hl.any (notP ⟨fund, al, []⟩) = r := ⟨_, rfl⟩
      obtain ⟨s3, hs3⟩ : ∃ r, evenB hl = r := ⟨_, rfl⟩
      rw [hs1] at PR EP0
      rw [hs2] at CN EP0
      rw [hs3] at EV EP0
      clear hs1 hs2 hs3
      go_wp2_with fail
      refine PR.out.mono ?_; rintro e w5 ⟨rfl, q5⟩
      have Q5 := Lib.hid q5
      have QW5 := Lib.hid (HB.out.trans (q5.mono HB.out.size))
      clear q5
      cases s1
      case false =>
        have E : Hid (fromB fund al hl = false) := Lib.hid (by rw [EP0.out]; rfl)
        go_wp2_with fail
        go_ret2
        exact ⟨QW5.out, .inl ⟨E.out, rfl⟩⟩
      go_wp2_with fail
      refine (CN.out w5 Q5.out).mono ?_; rintro e w6 ⟨rfl, q6⟩
      have Q6 := Lib.hid (Q5.out.trans (q6.mono Q5.out.size))
      have QW6 := Lib.hid (QW5.out.trans (q6.mono QW5.out.size))
      clear q6
      cases s2
      case true =>
        have E : Hid (fromB fund al hl = false) := Lib.hid (by rw [EP0.out]; rfl)
        go_wp2_with fail
        go_ret2
        exact ⟨QW6.out, .inl ⟨E.out, rfl⟩⟩
      go_wp2_with fail
      refine (EV.out w6 Q6.out).mono ?_; rintro e w7 ⟨rfl, q7⟩
      have Q7 := Lib.hid (Q6.out.trans (q7.mono Q6.out.size))
      have QW7 := Lib.hid (QW6.out.trans (q7.mono QW6.out.size))
      clear q7
      cases s3
      case false =>
        have E : Hid (fromB fund al hl = false) := Lib.hid (by rw [EP0.out]; rfl)
        go_wp2_with fail
        go_ret2
        exact ⟨QW7.out, .inl ⟨E.out, rfl⟩⟩
      have E : Hid (fromB fund al hl = true) := Lib.hid (by rw [EP0.out]; rfl)
      have INV2 := Lib.hid (IP.out E.out)
      have D7 := Lib.hid (D1.out.below Q7.out)
      clear EP0 IP PR CN EV D1 HD
      go_wp2_with fail
      go_loopw [58] (fun i wr => ∃ j : Nat, j ≤ n' ∧ i = .int .i64 j ∧ Dl wr g ba bp ⟨fund, al, hl.take j⟩ ∧ Below w.heap.size w wr) (fun i _ => n' - (intOf i).toNat)
      case atStart => exact ⟨0, Nat.zero_le _, rfl, D7.out, QW7.out⟩
      case round =>
        obtain ⟨j, hj, rfl, hD, hB⟩ := hrel
        have HD := Lib.hid hD
        have HBj := Lib.hid hB
        clear hD hB
        by_cases hlj : j < n'
        case neg =>
          obtain rfl : j = n' := by omega
          have hd : decide ((j : Int) < (j : Int)) = false := by simp
          have DE : Hid (Dl wr g ba bp ⟨fund, al, hl⟩) := Lib.hid (by have := HD.out; rwa [List.take_of_length_le (by rw [HN'.out]; exact Nat.le_refl _)] at this)
          go_wp2_with fail
          go_ret2
          exact ⟨HBj.out, .inr ⟨E.out, g, ba, bp, rfl, DE.out, NN.out⟩⟩
        case pos =>
          have hd : decide ((j : Int) < n') = true := decide_eq_true (by omega)
          have hki : (j : Int) < (n' : Int) := by omega
          obtain ⟨x, hx⟩ : ∃ x, hl[j]? = some x := ⟨hl[j]'(by have := HN'.out; omega), List.getElem?_eq_getElem _⟩
          obtain ⟨b, o, rfl, rg⟩ := grd_rng HR'.out hx
          have RG : Hid (wr.rangeAt b (o + j * 4) (EP.cells x)) := Lib.hid (rng_below rg HBj.out (Nat.le_refl _))
          have ST : Hid (holdL (hl.take j) x = hl.take (j + 1)) := Lib.hid (hold_take INV2.out hx)
          obtain ⟨W2, hW2, b2, z2⟩ := newP9 wr
          obtain ⟨W3, hW3⟩ : ∃ W3, W2.setRow wr.heap.size (EP.cells x).toArray = W3 := ⟨_, rfl⟩
          have Z2 := Lib.hid z2
          have HW2 := Lib.hid hW2
          have HW3 := Lib.hid hW3
          have x3 : EP.Bx 47 W3 wr.heap.size x := hW3 ▸ gbx_set z2
          have b3 : Below wr.heap.size wr W3 := by rw [← hW3]; exact below_row0 b2 (Nat.le_refl _)
          have B3 := Lib.hid b3
          have R3 := Lib.hid (gbx_rng x3)
          have OX := HOK'.out x (List.mem_of_getElem? hx)
          have KP := Lib.hid (lkeep9 x W3 (HD.out.below b3) ⟨OX.co, OX.ac⟩ (by show LgI ⟨fund, al, holdL (hl.take j) x⟩; rw [ST.out]; exact inv_takeP INV2.out (j + 1)))
          dsimp only at KP
          rw [ST.out] at KP
          clear hx rg hW2 z2 hW3 x3 b3 b2 OX
          go_wp2_with (first | ((with_reducible refine gwl_load TP b (o + j * 4) RG.out ?_ ?_ ?_); rfl; rfl) | (rw [HW2.out]; refine gwl_store TP x wr.heap.size Z2.out rfl rfl ?_; rw [HW3.out]) | ((with_reducible refine gwl_load TP wr.heap.size 0 R3.out ?_ ?_ ?_); rfl; rfl))
          refine KP.out.mono ?_; rintro e w9 ⟨rfl, d9, f9⟩
          have D9 := Lib.hid d9
          have Q9 : Hid (Below w.heap.size w w9) := Lib.hid (below_frP (HBj.out.trans (B3.out.mono HBj.out.size)) f9 (fun i hi hl => by have := NN.out i (.inr (.inr hl)); omega))
          clear d9 f9 KP
          go_wp2_with fail
          go_roundw
          case rel => exact ⟨j + 1, hlj, by go_num, D9.out, Q9.out⟩
          case measure => simp only [intOf]; omega
end Go.Proofs.Ythnmpnepgagmmaa
