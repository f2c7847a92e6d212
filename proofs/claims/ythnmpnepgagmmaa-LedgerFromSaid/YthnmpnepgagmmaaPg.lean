/- The document's From. -/
import Derived.Test.YthnmpnepgagmmaaPf
import Derived.Test.YthnmpnepgagmmaaOa
import Derived.BigQuiet
import Derived.Deep.QuietTactic
namespace Go.Proofs.Ythnmpnepgagmmaa
open Go.RowKit Go.Shelf
set_option linter.unusedVariables false
set_option linter.unusedSimpArgs false

theorem below_drewNE {B m : Nat} {w W : World} (h : Below B w W) : Below B w (W.drewN m) := ⟨h.os, h.tape, h.output, h.size, h.block⟩
def docB : Int → List Ac → Bool
  | _, [] => true
  | m, x :: t => (decide (m < x.nu) && amgB x.ca 0 1000000000000000) && docB x.nu t
theorem docB_eq : ∀ (al : List Ac) (m : Int), docB m al = (riseB m al && al.all fun a => amgB a.ca 0 1000000000000000)
  | [], _ => rfl
  | x :: t, m => by
    simp only [docB, riseB, List.all_cons, docB_eq t]
    cases decide (m < x.nu) <;> cases amgB x.ca 0 1000000000000000 <;> cases riseB x.nu t <;> simp
theorem okA_doc (fund : Int) (al : List Ac) : okA fund al = (((amgB fund 0 1000000000000000 && decide (al.length ≤ 64)) && docB 0 al) && decide (fund + cashL al ≤ 1000000000000000)) := by
  rw [Bool.eq_iff_iff, docB_eq]
  simp only [okA, fmB, amgB, Bool.and_eq_true, decide_eq_true_eq, List.all_eq_true]
  constructor
  · rintro ⟨⟨h1, h2⟩, ⟨h3, h4⟩, h5⟩
    have c0 := cash_nn h4
    exact ⟨⟨⟨⟨h3, by omega⟩, h1⟩, h2, fun a ha => ⟨h4 a ha, by have := cash_mem h4 a ha; omega⟩⟩, h5⟩
  · rintro ⟨⟨⟨⟨h3, h6⟩, h1⟩, h2, h4⟩, h5⟩
    exact ⟨⟨h1, h2⟩, ⟨h3, fun a ha => (h4 a ha).1⟩, h5⟩
/-- The place before. -/
def prevN (al : List Ac) : Nat → Int
  | 0 => 0
  | k + 1 => (al[k]?.getD zeroAc).nu
theorem notP_doc {fund : Int} {al : List Ac} (hi : LgI ⟨fund, al, []⟩) (x : Po) : notP ⟨fund, al, []⟩ x = ((((x.co == 0 || decide (atL al x.ac < 0)) || goneP x) || !amgB x.q (-10000000) 10000000) || !amgB x.b (-1000000000000000) 1000000000000000) := by
  have eb : inB x = (amgB x.q (-10000000) 10000000 && amgB x.b (-1000000000000000) 1000000000000000) := rfl
  unfold notP
  rw [eb]
  generalize amgB x.q (-10000000) 10000000 = s1
  generalize amgB x.b (-1000000000000000) 1000000000000000 = s2
  generalize goneP x = s3
  rcases at_of_atL hi x.ac with ⟨e, h⟩ | ⟨k, a, e, ha, h⟩
  · have e' : atL al x.ac = -1 := e
    rw [e', show decide ((-1 : Int) < 0) = true from rfl]
    by_cases h0 : x.ac = 0
    · rw [show (x.ac == 0) = true by simpa using h0]
      simp
    · have : thereB ⟨fund, al, []⟩ x.ac = false := by
        unfold thereB getL
        rw [if_neg h0, h]
        rfl
      rw [this]
      simp
  · have e' : atL al x.ac = k := e
    have hm := at_inv h
    have h1 := (hi.aok a hm.1).1
    have h2 : a.nu = x.ac := hm.2
    have h0 : x.ac ≠ 0 := by omega
    have : thereB ⟨fund, al, []⟩ x.ac = true := by
      unfold thereB getL
      rw [if_neg h0, h]
      rfl
    rw [this, e', show (x.ac == 0) = false by simpa using h0, show decide ((k : Int) < 0) = false from decide_eq_false (by omega)]
    cases (x.co == 0) <;> cases s1 <;> cases s2 <;> cases s3 <;> rfl
def prevP (hl : List Po) : Nat → Option Po
  | 0 => none
  | k + 1 => hl[k]?
set_option maxRecDepth 100000 in
set_option maxHeartbeats 16000000 in
theorem rfrom9 (A A' : Option Addr) (n c n' c' : Nat) (fund : Int) (al : List Ac) (hl : List Po) (w : World) (h : EA.Rd w A n al) (h' : EP.Rd w A' n' hl) (hA : A = none → c = 0) (hA' : A' = none → c' = 0) (hok : ∀ a, a ∈ al → a.ok) (hok' : ∀ p, p ∈ hl → p.ok) (hn : n ≤ 100) (hn' : n' ≤ 200) :
    Calls Try.prog 26 #[.int .i64 fund, .slice A n c, .slice A' n' c'] w fun e w' => Below w.heap.size w w' ∧
      ((fromB fund al hl = false ∧ e = .returned (.tuple #[.pointer none, .int .i64 2])) ∨
       (fromB fund al hl = true ∧ ∃ gr va vh, e = .returned (.tuple #[.pointer (some ⟨gr, 0, none⟩), .int .i64 0]) ∧ Rl w' w.heap.size gr va vh ⟨fund, al, hl⟩)) := by
  have HR := Lib.hid h
  have HR' := Lib.hid h'
  have hz := zero_ac
  have hz2 := zero_po
  have HN : Hid (al.length = n) := Lib.hid h.1
  have HN' : Hid (hl.length = n') := Lib.hid h'.1
  have HOK := Lib.hid hok
  have HOK' := Lib.hid hok'
  have HA := Lib.hid (And.intro hA hA')
  have AM := Lib.hid (fun x a b U => ramong x a b U)
  have DOC := Lib.hid (okA_doc fund al)
  have NO : Hid (okA fund al = false → fromB fund al hl = false) := Lib.hid fun e => by unfold fromB; rw [e]; rfl
  rw [HN.out] at DOC
  clear h h' hok hok' hA hA'
  obtain ⟨r1, hr1⟩ : ∃ r, amgB fund 0 1000000000000000 = r := ⟨_, rfl⟩
  rw [hr1] at DOC
  have HF : Hid (r1 = true → 0 ≤ fund ∧ fund ≤ 1000000000000000) := Lib.hid (fun e => by rw [← hr1] at e; simpa [amgB] using e)
  have A0 := Lib.hid (AM.out fund 0 1000000000000000 w)
  rw [hr1] at A0
  clear hr1
  go_enter Try.func26, Try.ntmps26
  go_wp2_with fail
  refine A0.out.mono ?_; rintro e w1 ⟨rfl, rfl⟩
  cases r1
  case false =>
    have E : Hid (fromB fund al hl = false) := Lib.hid (NO.out (by rw [DOC.out]; rfl))
    go_wp2_with fail
    go_ret2
    exact ⟨Below.refl _ _, .inl ⟨E.out, rfl⟩⟩
  by_cases h64 : n ≤ 64
  case neg =>
    have hd : decide (64 < (n : Int)) = true := decide_eq_true (by omega)
    have E : Hid (fromB fund al hl = false) := Lib.hid (NO.out (by rw [DOC.out, decide_eq_false h64]; rfl))
    clear h64
    go_wp2_with fail
    go_ret2
    exact ⟨Below.refl _ _, .inl ⟨E.out, rfl⟩⟩
  have hd : decide (64 < (n : Int)) = false := decide_eq_false (by omega)
  have FB := Lib.hid (HF.out rfl)
  rw [decide_eq_true h64, Bool.true_and, Bool.true_and] at DOC
  obtain ⟨u1, hu1⟩ : ∃ u1, w.alloc (.cells #[] 33) = u1 := ⟨_, rfl⟩
  have bu1 : Below w.heap.size w u1 := hu1 ▸ below_new w _
  have ou1 : Hid (EA.Own 33 u1 w.heap.size (.slice (some ⟨w.heap.size, 0, none⟩) 0 0) []) := Lib.hid (hu1 ▸ gown_new w)
  have HU1 := Lib.hid hu1
  have BU1 := Lib.hid bu1
  have RU1 := Lib.hid (grd_below HR.out bu1 (Nat.le_refl _))
  clear hu1 bu1 A0 HF
  go_wp2_with (first | (at_builtin; (try rw [HU1.out]); refine gpl_app TA rfl (.tmp 26) (.tmp 27) rfl w.heap.size _ [] rfl ou1.out A n c al rfl RU1.out HA.out.1 (by simp; omega) BU1.out.size ?_; intro va w2 o1 g1 s1; obtain ⟨Aa, ca, rfl, _⟩ := gown_form o1; clear s1; rw [show (([] : List Ac) ++ al).length = n from HN.out] at o1 ⊢; have O1 : Hid (EA.Own 33 w2 w.heap.size (.slice Aa n ca) al) := Lib.hid o1; have B2 : Hid (Below w.heap.size w w2) := Lib.hid (BU1.out.grown g1 BU1.out.size (fun j hj => by cases hj; exact Nat.le_refl _)); obtain ⟨u3, hu3⟩ : ∃ u3, w2.alloc (.cells #[] 47) = u3 := ⟨_, rfl⟩; have ou3 : Hid (EP.Own 47 u3 w2.heap.size (.slice (some ⟨w2.heap.size, 0, none⟩) 0 0) []) := Lib.hid (hu3 ▸ gown_new w2); have bu3 : Below w2.heap.size w2 u3 := hu3 ▸ below_new w2 _; have BU3 := Lib.hid bu3; have RU3 := Lib.hid (grd_below HR'.out (B2.out.trans (bu3.mono B2.out.size)) (Nat.le_refl _)); have HU3 := Lib.hid hu3; clear hu3 bu3 o1 g1) | (at_builtin; (try rw [HU3.out]); refine gpl_app TP rfl (.tmp 29) (.tmp 30) rfl w2.heap.size _ [] rfl ou3.out A' n' c' hl rfl RU3.out HA.out.2 (by simp; omega) BU3.out.size ?_; intro vh w4 o2 g2 s2; obtain ⟨Ah, ch, rfl, _⟩ := gown_form o2; clear s2; rw [show (([] : List Po) ++ hl).length = n' from HN'.out] at o2 ⊢; have O2 : Hid (EP.Own 47 w4 w2.heap.size (.slice Ah n' ch) hl) := Lib.hid o2; have B4 : Hid (Below w2.heap.size w2 w4) := Lib.hid (BU3.out.grown g2 BU3.out.size (fun j hj => by cases hj; exact Nat.le_refl _)); clear o2 g2))
  have R5 : Hid (Rl (w4.alloc (.cells #[.int .i64 fund, .slice Aa n ca, .slice Ah n' ch] 29)) w.heap.size w4.heap.size (.slice Aa n ca) (.slice Ah n' ch) ⟨fund, al, hl⟩) := Lib.hid
    ⟨heap_alloc_new w4 _, gown_below (gown_below O1.out B4.out) (below_new w4 _), gown_low (gown_below O2.out (below_new w4 _)) B2.out.size, Nat.le_trans B2.out.size B4.out.size⟩
  have Q5 : Hid (Below w.heap.size w (w4.alloc (.cells #[.int .i64 fund, .slice Aa n ca, .slice Ah n' ch] 29))) := Lib.hid
    ((B2.out.trans (B4.out.mono B2.out.size)).trans ((below_new w4 _).mono (Nat.le_trans B2.out.size B4.out.size)))
  obtain ⟨W, hW⟩ : ∃ W, w4.alloc (.cells #[.int .i64 fund, .slice Aa n ca, .slice Ah n' ch] 29) = W := ⟨_, rfl⟩
  obtain ⟨gr, hgr⟩ : ∃ gr, w4.heap.size = gr := ⟨_, rfl⟩
  rw [hW] at R5 Q5 ⊢
  rw [hgr] at R5 ⊢
  clear hW hgr O1 O2 B4 BU3 RU3 HU3 ou3 BU1 RU1 HU1 ou1 h64 hd
  go_loopw [9] (fun i wr => ∃ k : Nat, k ≤ n ∧ i = .int .i64 k ∧ docB 0 al = docB (prevN al k) (al.drop k) ∧ Below W.heap.size W wr) (fun i _ => n - (intOf i).toNat)
  case atStart => exact ⟨0, Nat.zero_le _, rfl, rfl, Below.refl _ _⟩
  case round =>
    obtain ⟨k, hk, rfl, hdc, hB⟩ := hrel
    have HD := Lib.hid hdc
    have HB := Lib.hid hB
    clear hdc hB
    by_cases hlt : k < n
    case neg =>
      obtain rfl : n = k := by omega
      have hd : decide ((n : Int) < (n : Int)) = false := by simp
      have E1 : Hid (docB 0 al = true) := Lib.hid (by rw [HD.out, List.drop_of_length_le (by rw [HN.out]; exact Nat.le_refl _)]; rfl)
      have CB : Hid (∀ a, a ∈ al → 0 ≤ a.ca ∧ a.ca ≤ 1000000000000000) := Lib.hid (fun a ha => by
        have := E1.out
        rw [docB_eq] at this
        simp only [Bool.and_eq_true, List.all_eq_true, amgB, decide_eq_true_eq] at this
        exact this.2 a ha)
      have RF := Lib.hid (rfunds9 wr (R5.out.below HB.out) FB.out CB.out (by show al.length ≤ 200; rw [HN.out]; omega))
      have EFU : fundsL ⟨fund, al, hl⟩ = fund + cashL al := rfl
      rw [EFU] at RF
      rw [E1.out] at DOC
      obtain ⟨S, hS⟩ : ∃ S, fund + cashL al = S := ⟨_, rfl⟩
      rw [hS] at RF DOC
      clear EFU hS HD
      go_wp2_with fail
      refine RF.out.mono ?_; rintro e w5 ⟨rfl, rfl⟩
      by_cases hSM : 1000000000000000 < S
      case pos =>
        have hd2 : decide (1000000000000000 < S) = true := decide_eq_true hSM
        have E : Hid (fromB fund al hl = false) := Lib.hid (NO.out (by rw [DOC.out, decide_eq_false (by omega)]; rfl))
        clear hSM
        go_wp2_with fail
        go_ret2
        exact ⟨Q5.out.trans (HB.out.mono Q5.out.size), .inl ⟨E.out, rfl⟩⟩
      case neg =>
      have hd2 : decide (1000000000000000 < S) = false := decide_eq_false hSM
      have OA : Hid (okA fund al = true) := Lib.hid (by rw [DOC.out, decide_eq_true (by omega)]; rfl)
      have INV := Lib.hid (okA_inv OA.out HOK.out)
      have EP0 : Hid (fromB fund al hl = ((chB none hl && !hl.any (notP ⟨fund, al, []⟩)) && evenB hl)) := Lib.hid (by unfold fromB; rw [OA.out]; rfl)
      clear hSM RF NO DOC
      go_wp2_with fail
      go_loopw [10] (fun i wr => ∃ k : Nat, k ≤ n' ∧ i = .int .i64 k ∧ (chB none hl && !hl.any (notP ⟨fund, al, []⟩)) = (chB (prevP hl k) (hl.drop k) && !(hl.drop k).any (notP ⟨fund, al, []⟩)) ∧ Below W.heap.size W wr) (fun i _ => n' - (intOf i).toNat)
      case atStart => exact ⟨0, Nat.zero_le _, rfl, rfl, HB.out⟩
      case round =>
        obtain ⟨k, hk, rfl, hch, hB⟩ := hrel
        have HC := Lib.hid hch
        have HB2 := Lib.hid hB
        have QW := Lib.hid (Q5.out.trans (hB.mono Q5.out.size))
        clear hch hB
        by_cases hlt : k < n'
        case neg =>
          obtain rfl : k = n' := by omega
          have hd : decide ((k : Int) < (k : Int)) = false := by simp
          have E2 : Hid ((chB none hl && !hl.any (notP ⟨fund, al, []⟩)) = true) := Lib.hid (by rw [HC.out, List.drop_of_length_le (by rw [HN'.out]; exact Nat.le_refl _)]; cases prevP hl k <;> rfl)
          have EP1 : Hid (fromB fund al hl = evenB hl) := Lib.hid (by rw [EP0.out, E2.out, Bool.true_and])
          have WA : Hid (∀ a b : Int, wrap64 (wrap64 a + b) = wrap64 (a + b)) := Lib.hid fun a b => by unfold wrap64; omega
          clear hk
          go_wp2_with fail
          go_loopw [12] (fun i wr => ∃ j : Nat, j ≤ k ∧ i = .int .i64 j ∧ evenB hl = (hl.drop j).all (fun p => wrap64 (qS p.co hl) == 0 && wrap64 (bS p.co hl) == 0) ∧ Below W.heap.size W wr) (fun i _ => k - (intOf i).toNat)
          case atStart => exact ⟨0, Nat.zero_le _, rfl, rfl, HB2.out⟩
          case round =>
            obtain ⟨j, hj, rfl, hev, hB3⟩ := hrel
            have HE := Lib.hid hev
            have HB3 := Lib.hid hB3
            have QV := Lib.hid (Q5.out.trans (hB3.mono Q5.out.size))
            clear hev hB3
            generalize wr = wo at *
            by_cases hlt3 : j < k
            case neg =>
              obtain rfl : j = k := by omega
              have E3 : Hid (fromB fund al hl = true) := Lib.hid (by rw [EP1.out, HE.out, List.drop_of_length_le (by rw [HN'.out]; exact Nat.le_refl _)]; rfl)
              go_wp2_with fail
              go_ret2
              exact ⟨QV.out, .inr ⟨E3.out, gr, _, _, rfl, R5.out.below HB3.out⟩⟩
            case pos =>
              have hd3 : decide ((j : Int) < (k : Int)) = true := decide_eq_true (by omega)
              have hki3 : (j : Int) < (k : Int) := by omega
              obtain ⟨x, hx⟩ : ∃ x, hl[j]? = some x := ⟨hl[j]'(by have := HN'.out; omega), List.getElem?_eq_getElem _⟩
              obtain ⟨b, o, rfl, rg⟩ := grd_rng HR'.out hx
              have c0 : wo.cell? ⟨b, o + j * 4, none⟩ = some (.int .u32 x.co) := (rng_below rg QV.out (Nat.le_refl _) : wo.rangeAt b (o + j * 4) (EP.cells x)) 0 _ rfl
              have HH := Lib.hid (rholders9 x.co wo (R5.out.below HB3.out) (HOK'.out x (List.mem_of_getElem? hx)).co (by show hl.length ≤ 5000; rw [HN'.out]; omega))
              have EX : Hid (evenB hl = ((wrap64 (qS x.co hl) == 0 && wrap64 (bS x.co hl) == 0) && (hl.drop (j + 1)).all (fun p => wrap64 (qS p.co hl) == 0 && wrap64 (bS p.co hl) == 0))) := Lib.hid (by rw [HE.out, drop_at hx]; rfl)
              have SQ : Hid (qS x.co hl = ((hl.filter fun y => y.co == x.co).map Po.q).sum ∧ bS x.co hl = ((hl.filter fun y => y.co == x.co).map Po.b).sum) := Lib.hid ⟨rfl, rfl⟩
              clear hx rg
              go_wp2_with fail
              refine HH.out.mono ?_; rintro e w8 ⟨v8, rfl, o8, q8⟩
              change EP.Own 47 w8 wo.heap.size v8 (hl.filter fun y => y.co == x.co) at o8
              obtain ⟨hs, hhs⟩ : ∃ hs, (hl.filter fun y => y.co == x.co) = hs := ⟨_, rfl⟩
              have HSL : Hid (hs.length ≤ 200) := Lib.hid (by rw [← hhs]; have := List.length_filter_le (fun y : Po => y.co == x.co) hl; have := HN'.out; omega)
              rw [hhs] at o8 SQ
              obtain ⟨A8, c8, rfl, _⟩ := gown_form o8
              have O8 := Lib.hid (gown_rd o8)
              obtain ⟨ml, hml⟩ : ∃ v, hs.length = v := ⟨_, rfl⟩
              have HML := Lib.hid hml
              rw [hml] at O8 HSL ⊢
              have Q8 := Lib.hid (HB3.out.trans (q8.mono HB3.out.size))
              have ml2 : ml ≤ 200 := HSL.out
              clear o8 q8 hhs hml HH
              go_wp2_with fail
              go_loopw [13, 14, 16] (fun q b i wr => ∃ (m : Nat) (Q B : Int), m ≤ ml ∧ i = .int .i64 m ∧ q = .int .i64 Q ∧ b = .int .i64 B ∧ Q = wrap64 ((hs.take m).map Po.q).sum ∧ B = wrap64 ((hs.take m).map Po.b).sum ∧ Below w8.heap.size w8 wr) (fun _ _ i _ => ml - (intOf i).toNat)
              case atStart => exact ⟨0, 0, 0, Nat.zero_le _, rfl, rfl, rfl, by simp [wrap64], by simp [wrap64], Below.refl _ _⟩
              case round =>
                obtain ⟨m, Q, B, hm, rfl, rfl, rfl, hQ, hB4, hB5⟩ := hrel
                have EQ := Lib.hid hQ
                have EB := Lib.hid hB4
                have HB5 := Lib.hid hB5
                clear hQ hB4 hB5
                generalize wr = wi at *
                by_cases hlt4 : m < ml
                case neg =>
                  obtain rfl : m = ml := by omega
                  have T : Hid (hs.take m = hs) := Lib.hid (List.take_of_length_le (by rw [HML.out]; exact Nat.le_refl _))
                  have Q9 := Lib.hid (Q8.out.trans (HB5.out.mono Q8.out.size))
                  have QX := Lib.hid (Q5.out.trans (Q9.out.mono Q5.out.size))
                  have EX2 : Hid (evenB hl = ((Q == 0 && B == 0) && (hl.drop (j + 1)).all (fun p => wrap64 (qS p.co hl) == 0 && wrap64 (bS p.co hl) == 0))) := Lib.hid (by rw [EX.out, SQ.out.1, SQ.out.2, EQ.out, EB.out, T.out])
                  clear EX
                  cases hq0 : (Q == 0)
                  case false =>
                    have hq1 : (Q != 0) = true := by simp at hq0 ⊢; exact hq0
                    have E : Hid (fromB fund al hl = false) := Lib.hid (by rw [EP1.out, EX2.out, hq0]; rfl)
                    go_wp2_with fail
                    go_ret2
                    exact ⟨QX.out, .inl ⟨E.out, rfl⟩⟩
                  have hq1 : (Q != 0) = false := by simp at hq0 ⊢; exact hq0
                  cases hb0 : (B == 0)
                  case false =>
                    have hb1 : (B != 0) = true := by simp at hb0 ⊢; exact hb0
                    have E : Hid (fromB fund al hl = false) := Lib.hid (by rw [EP1.out, EX2.out, hb0, Bool.and_false, Bool.false_and])
                    go_wp2_with fail
                    go_ret2
                    exact ⟨QX.out, .inl ⟨E.out, rfl⟩⟩
                  have hb1 : (B != 0) = false := by simp at hb0 ⊢; exact hb0
                  have EX3 : Hid (evenB hl = (hl.drop (j + 1)).all (fun p => wrap64 (qS p.co hl) == 0 && wrap64 (bS p.co hl) == 0)) := Lib.hid (by rw [EX2.out, hq0, hb0]; rfl)
                  clear EX2
                  go_wp2_with fail
                  go_roundw
                  case rel => exact ⟨j + 1, hlt3, by go_num, EX3.out, Q9.out⟩
                  case measure => simp only [intOf]; omega
                case pos =>
                  have hd4 : decide ((m : Int) < (ml : Int)) = true := decide_eq_true (by omega)
                  have hki4 : (m : Int) < (ml : Int) := by omega
                  obtain ⟨y, hy⟩ : ∃ x, hs[m]? = some x := ⟨hs[m]'(by have := HML.out; omega), List.getElem?_eq_getElem _⟩
                  obtain ⟨b8, o8, rfl, rg⟩ := grd_rng (grd_below O8.out HB5.out (Nat.le_refl _)) hy
                  have c2 : wi.cell? ⟨b8, o8 + m * 4 + 2, none⟩ = some (.int .i64 y.q) := (rg : wi.rangeAt b8 (o8 + m * 4) (EP.cells y)) 2 _ rfl
                  have c3 : wi.cell? ⟨b8, o8 + m * 4 + 3, none⟩ = some (.int .i64 y.b) := (rg : wi.rangeAt b8 (o8 + m * 4) (EP.cells y)) 3 _ rfl
                  have T : Hid (hs.take (m + 1) = hs.take m ++ [y]) := Lib.hid (take_snoc9 hy)
                  have R1 : Hid (wrap64 (Q + y.q) = wrap64 ((hs.take (m + 1)).map Po.q).sum) := Lib.hid (by rw [T.out, List.map_append, List.sum_append, EQ.out, WA.out]; simp)
                  have R2 : Hid (wrap64 (B + y.b) = wrap64 ((hs.take (m + 1)).map Po.b).sum) := Lib.hid (by rw [T.out, List.map_append, List.sum_append, EB.out, WA.out]; simp)
                  clear hy rg
                  go_wp2_with fail
                  go_roundw
                  case rel => exact ⟨m + 1, _, _, hlt4, by go_num, rfl, rfl, R1.out, R2.out, HB5.out⟩
                  case measure => simp only [intOf]; omega
        case pos =>
          have hd : decide ((k : Int) < n') = true := decide_eq_true (by omega)
          have hki : (k : Int) < (n' : Int) := by omega
          obtain ⟨x, hx⟩ : ∃ x, hl[k]? = some x := ⟨hl[k]'(by have := HN'.out; omega), List.getElem?_eq_getElem _⟩
          obtain ⟨b, o, rfl, rg⟩ := grd_rng HR'.out hx
          have RG : Hid (wr.rangeAt b (o + k * 4) (EP.cells x)) := Lib.hid (rng_below rg QW.out (Nat.le_refl _))
          obtain ⟨W2, hW2, b2, z2⟩ := newP9 wr
          obtain ⟨W3, hW3⟩ : ∃ W3, W2.setRow wr.heap.size (EP.cells x).toArray = W3 := ⟨_, rfl⟩
          have Z2 := Lib.hid z2
          have HW2 := Lib.hid hW2
          have HW3 := Lib.hid hW3
          have x3 : EP.Bx 47 W3 wr.heap.size x := hW3 ▸ gbx_set z2
          have b3 : Below wr.heap.size wr W3 := by rw [← hW3]; exact below_row0 b2 (Nat.le_refl _)
          have QW3 := Lib.hid (QW.out.trans (b3.mono QW.out.size))
          have HB3 := Lib.hid (HB2.out.trans (b3.mono HB2.out.size))
          have p0 : W3.cell? ⟨wr.heap.size, 0, none⟩ = some (.int .u32 x.co) := gbx_cell x3 0
          have p1 : W3.cell? ⟨wr.heap.size, 1, none⟩ = some (.int .u32 x.ac) := gbx_cell x3 1
          have p2 : W3.cell? ⟨wr.heap.size, 2, none⟩ = some (.int .i64 x.q) := gbx_cell x3 2
          have p3 : W3.cell? ⟨wr.heap.size, 3, none⟩ = some (.int .i64 x.b) := gbx_cell x3 3
          have R3 := Lib.hid (R5.out.below HB3.out)
          have HX : Hid ((chB none hl && !hl.any (notP ⟨fund, al, []⟩)) = (chB (prevP hl k) (x :: hl.drop (k + 1)) && !(x :: hl.drop (k + 1)).any (notP ⟨fund, al, []⟩))) := Lib.hid (by rw [HC.out, drop_at hx])
          have BAD : Hid ((chB none hl && !hl.any (notP ⟨fund, al, []⟩)) = false → fromB fund al hl = false) := Lib.hid (fun e => by rw [EP0.out, e]; rfl)
          have HPX : Hid (prevP hl (k + 1) = some x) := Lib.hid hx
          have XK := Lib.hid (HOK'.out x (List.mem_of_getElem? hx))
          clear hx rg hW2 z2 hW3 x3 b3 b2
          apply wp_seq_k; intro K1 h1; have H1 := Lib.hid h1; clear h1
          go_wp2_with fail
          refine H1.out _ _ ?_
          clear H1
          apply wp_seq_k; intro K2 h2; have H2 := Lib.hid h2; clear h2
          refine wp_block ?_
          apply wp_seq_k; intro K3 h3; have H3 := Lib.hid h3; clear h3
          go_wp2_with (first | ((with_reducible refine gwl_load TP b (o + k * 4) RG.out ?_ ?_ ?_); rfl; rfl) | (rw [HW2.out]; refine gwl_store TP x wr.heap.size Z2.out rfl rfl ?_; rw [HW3.out]))
          refine H3.out _ _ ?_
          clear H3
          refine wp_midP (fun a' U => (∃ m, U = W3.drewN m) ∧ chB (prevP hl k) (x :: hl.drop (k + 1)) = chB (some x) (hl.drop (k + 1)) ∧ ∃ u : Nat → Value, a' = { tmps := #[.int .i64 fund, .slice A n c, .slice (some ⟨b, o, none⟩) n' c', undef, undef, undef, u 6, u 7, .pointer (some ⟨gr, 0, none⟩), .int .i64 n, .int .i64 k, .pointer (some ⟨wr.heap.size, 0, none⟩), undef, undef, undef, undef, undef, .int .i64 fund, .bool true, .bool false, .bool false, .slice A n c, .int .i64 n, .bool false, .bool false, .int .i64 fund, .slice (some ⟨w.heap.size, 0, none⟩) 0 0, .slice A n c, .slice Aa n ca, .slice (some ⟨w2.heap.size, 0, none⟩) 0 0, .slice (some ⟨b, o, none⟩) n' c', .slice Ah n' ch, .agg #[.int .i64 fund, .slice Aa n ca, .slice Ah n' ch], .pointer (some ⟨gr, 0, none⟩), .int .i64 n, .slice A n c, .int .i64 n, .bool false, u38, u39, u40, u41, u42, u43, u44, u45, u46, u47, u48, u49, u50, u51, u52, u53, u54, u55, u56, u57, u58, u59, u60, u61, u62, u63, u64, u65, u66, u67, u68, u69, u70, u71, u72, .pointer (some ⟨gr, 0, none⟩), .int .i64 S, .bool false, u 76, u 77, u 78, u 79, u 80, u 81, u 82, u 83, u 84, u 85, u 86, u 87, u 88, u 89, u 90, u 91, u 92, u 93, u 94, u 95, u 96, u 97, u 98, u 99, u 100, u 101, u 102, u 103, u 104, u 105, u 106, u 107, u 108, u 109, u 110, u 111, u 112, u 113, u 114, u 115, u 116, u 117, u 118, u 119, u 120, u 121, u 122, u 123, u 124, u 125, u 126, u 127, u 128, u 129, u 130, u 131, u 132, u 133, u 134, u 135, u 136, u 137, u 138, u 139, u 140, u 141, u 142, u 143, u 144, u 145, u 146, u 147, u 148, u 149, u 150, u 151, u 152, undef, undef, undef, undef, undef, undef, undef, undef, undef, undef, undef, undef, undef, undef, undef, undef, undef, undef, undef, undef, undef, undef, undef, undef, undef, undef, undef, undef, undef, undef, undef, undef, undef, undef, undef, undef, undef, undef, undef, undef], defers := [] }) ?ordX ?posX
          case ordX =>
            intro KM hKM; have HKM := Lib.hid hKM; clear hKM
            by_cases hk0 : k = 0
            case pos =>
              have hdk : decide (0 < (k : Int)) = false := decide_eq_false (by omega)
              have hdk2 : decide (0 < k) = false := decide_eq_false (by omega)
              have N : Hid (chB (prevP hl k) (x :: hl.drop (k + 1)) = chB (some x) (hl.drop (k + 1))) := Lib.hid (by rw [hk0]; rfl)
              clear hk0
              go_wp2_with fail
              go_quiet (fail)
              go_wp2_with fail
              refine HKM.out _ _ ?_
              exact ⟨⟨_, rfl⟩, N.out, intro_uE rfl⟩
            case neg =>
              obtain ⟨k', hk'⟩ : ∃ k', k = k' + 1 := ⟨k - 1, by omega⟩
              have hdk : decide (0 < (k : Int)) = true := decide_eq_true (by omega)
              have hdk2 : decide (0 < k) = true := decide_eq_true (by omega)
              have hkp : (0 : Int) < (k : Int) := by omega
              have hkp2 : 0 < k := by omega
              obtain ⟨y, hy⟩ : ∃ y, hl[k']? = some y := ⟨hl[k']'(by have := HN'.out; omega), List.getElem?_eq_getElem _⟩
              have wi : IntKind.i64.wrap ((k : Int) - 1) = (k' : Int) := by rw [IntKind.wrap_i64]; omega
              have wi2 : wrap64 ((k : Int) - 1) = (k' : Int) := by unfold wrap64; omega
              have hkj : (k' : Int) < (n' : Int) := by omega
              obtain ⟨b2, o2, e2, rg2⟩ := grd_rng HR'.out hy
              cases e2
              have rgy : W3.rangeAt b (o + k' * 4) (EP.cells y) := rng_below rg2 QW3.out (Nat.le_refl _)
              have j0 : W3.cell? ⟨b, o + k' * 4, none⟩ = some (.int .u32 y.co) := rgy 0 _ rfl
              have j1 : W3.cell? ⟨b, o + k' * 4 + 1, none⟩ = some (.int .u32 y.ac) := rgy 1 _ rfl
              have PY : Hid (chB (prevP hl k) (x :: hl.drop (k + 1)) = (folB y x && chB (some x) (hl.drop (k + 1)))) := Lib.hid (by rw [hk']; show chB (hl[k']?) _ = _; rw [hy]; rfl)
              unfold folB at PY
              clear hy rg2 rgy hk0 hk'
              obtain ⟨yc, hyc⟩ : ∃ v, y.co = v := ⟨_, rfl⟩
              obtain ⟨ya, hya⟩ : ∃ v, y.ac = v := ⟨_, rfl⟩
              obtain ⟨xc, hxc⟩ : ∃ v, x.co = v := ⟨_, rfl⟩
              obtain ⟨xa, hxa⟩ : ∃ v, x.ac = v := ⟨_, rfl⟩
              rw [hyc] at j0 PY
              rw [hya] at j1 PY
              rw [hxc] at p0 PY
              rw [hxa] at p1 PY
              clear hyc hya hxc hxa
              have bad : ∀ f : Bool, f = false → Hid (chB (prevP hl k) (x :: hl.drop (k + 1)) = (f && chB (some x) (hl.drop (k + 1)))) → Hid (fromB fund al hl = false) := fun f hf h => Lib.hid (BAD.out (by rw [HX.out, h.out, hf, Bool.false_and, Bool.false_and]))
              have good : ∀ f : Bool, f = true → Hid (chB (prevP hl k) (x :: hl.drop (k + 1)) = (f && chB (some x) (hl.drop (k + 1)))) → Hid (chB (prevP hl k) (x :: hl.drop (k + 1)) = chB (some x) (hl.drop (k + 1))) := fun f hf h => Lib.hid (by rw [h.out, hf, Bool.true_and])
              by_cases c1 : xc < yc
              case pos =>
                have d1 : decide (xc < yc) = true := decide_eq_true c1
                have E := bad _ (by simp; omega) PY
                clear bad good PY c1
                go_wp2_with fail
                go_quiet (fail)
                go_wp2_with fail
                go_ret2
                exact ⟨below_drewNE QW3.out, .inl ⟨E.out, rfl⟩⟩
              case neg =>
                have d1 : decide (xc < yc) = false := decide_eq_false c1
                by_cases c2 : yc = xc
                case pos =>
                  have d2 : (yc == xc) = true := by simpa using c2
                  by_cases c3 : xa ≤ ya
                  case pos =>
                    have d3 : decide (xa ≤ ya) = true := decide_eq_true c3
                    have E := bad _ (by simp; omega) PY
                    clear bad good PY c1 c2 c3
                    go_wp2_with fail
                    go_quiet (fail)
                    go_wp2_with fail
                    go_ret2
                    exact ⟨below_drewNE QW3.out, .inl ⟨E.out, rfl⟩⟩
                  case neg =>
                    have d3 : decide (xa ≤ ya) = false := decide_eq_false c3
                    have E := good _ (by simp; omega) PY
                    clear bad good PY c1 c2 c3
                    go_wp2_with fail
                    go_quiet (fail)
                    go_wp2_with fail
                    refine HKM.out _ _ ?_
                    exact ⟨⟨_, rfl⟩, E.out, intro_uE rfl⟩
                case neg =>
                  have d2 : (yc == xc) = false := by simpa using c2
                  have E := good _ (by simp; omega) PY
                  clear bad good PY c1 c2
                  go_wp2_with fail
                  go_quiet (fail)
                  go_wp2_with fail
                  refine HKM.out _ _ ?_
                  exact ⟨⟨_, rfl⟩, E.out, intro_uE rfl⟩
          case posX =>
            rintro a1 U ⟨⟨m, rfl⟩, hN, u, rfl⟩
            have p0' : (W3.drewN m).cell? ⟨wr.heap.size, 0, none⟩ = some (.int .u32 x.co) := p0
            have p1' : (W3.drewN m).cell? ⟨wr.heap.size, 1, none⟩ = some (.int .u32 x.ac) := p1
            have p2' : (W3.drewN m).cell? ⟨wr.heap.size, 2, none⟩ = some (.int .i64 x.q) := p2
            have p3' : (W3.drewN m).cell? ⟨wr.heap.size, 3, none⟩ = some (.int .i64 x.b) := p3
            have QV : Hid (Below w.heap.size w (W3.drewN m)) := Lib.hid (below_drewNE QW3.out)
            have HBV : Hid (Below W.heap.size W (W3.drewN m)) := Lib.hid (below_drewNE HB3.out)
            have RV := Lib.hid (R3.out.drewN m)
            clear p0 p1 p2 p3
            obtain ⟨V, hV⟩ : ∃ V, W3.drewN m = V := ⟨_, rfl⟩
            rw [hV] at p0' p1' p2' p3' QV HBV RV ⊢
            clear hV
            have BADN : Hid (notP ⟨fund, al, []⟩ x = true → fromB fund al hl = false) := Lib.hid (fun e => BAD.out (by rw [HX.out, List.any_cons, e, Bool.true_or, Bool.not_true, Bool.and_false]))
            have GOODN : Hid (notP ⟨fund, al, []⟩ x = false → (chB none hl && !hl.any (notP ⟨fund, al, []⟩)) = (chB (prevP hl (k + 1)) (hl.drop (k + 1)) && !(hl.drop (k + 1)).any (notP ⟨fund, al, []⟩))) := Lib.hid (fun e => by rw [HX.out, hN, List.any_cons, e, Bool.false_or, HPX.out])
            have ND := Lib.hid (notP_doc INV.out x)
            have AT : Hid (Calls Try.prog 34 #[.pointer (some ⟨gr, 0, none⟩), .int .u32 x.ac] V fun e w' => e = .returned (.int .i64 (atL al x.ac)) ∧ V = w') := Lib.hid (rat9 x.ac V RV.out XK.out.ac)
            have A1 := Lib.hid (AM.out x.q (-10000000) 10000000 V)
            have A2 := Lib.hid (AM.out x.b (-1000000000000000) 1000000000000000 V)
            have GE : Hid (goneP x = (x.q == 0 && x.b == 0)) := Lib.hid rfl
            rw [GE.out] at ND
            clear hN GE
            obtain ⟨b0, hb0⟩ : ∃ v, (x.co == 0) = v := ⟨_, rfl⟩
            obtain ⟨g1, hg1⟩ : ∃ v, (x.q == 0) = v := ⟨_, rfl⟩
            obtain ⟨g2, hg2⟩ : ∃ v, (x.b == 0) = v := ⟨_, rfl⟩
            obtain ⟨av, hav⟩ : ∃ v, atL al x.ac = v := ⟨_, rfl⟩
            obtain ⟨b1, hb1⟩ : ∃ v, decide (av < 0) = v := ⟨_, rfl⟩
            obtain ⟨s1, hs1⟩ : ∃ v, amgB x.q (-10000000) 10000000 = v := ⟨_, rfl⟩
            obtain ⟨s2, hs2⟩ : ∃ v, amgB x.b (-1000000000000000) 1000000000000000 = v := ⟨_, rfl⟩
            rw [hs1] at A1
            rw [hs2] at A2
            rw [hav] at AT
            rw [hb0, hav, hb1, hg1, hg2, hs1, hs2] at ND
            clear hs1 hs2 hav
            cases b0
            case true =>
              have E : Hid (fromB fund al hl = false) := Lib.hid (BADN.out (by rw [ND.out]; simp))
              clear BADN GOODN ND
              go_wp2_with fail
              go_ret2
              exact ⟨QV.out, .inl ⟨E.out, rfl⟩⟩
            go_wp2_with fail
            refine AT.out.mono ?_; rintro e w9 ⟨rfl, rfl⟩
            cases b1
            case true =>
              have E : Hid (fromB fund al hl = false) := Lib.hid (BADN.out (by rw [ND.out]; simp))
              clear BADN GOODN ND
              go_wp2_with fail
              go_ret2
              exact ⟨QV.out, .inl ⟨E.out, rfl⟩⟩
            cases hgg : (g1 && g2)
            case true =>
              have E : Hid (fromB fund al hl = false) := Lib.hid (BADN.out (by rw [ND.out, hgg]; simp))
              obtain ⟨rfl, rfl⟩ : g1 = true ∧ g2 = true := by simpa using hgg
              clear BADN GOODN ND hgg
              go_wp2_with fail
              go_ret2
              exact ⟨QV.out, .inl ⟨E.out, rfl⟩⟩
            have REST : ∀ (_ : True), True := fun h => h
            rw [hgg] at ND
            have GS : (g1 = false) ∨ (g1 = true ∧ g2 = false) := by cases g1 <;> cases g2 <;> simp_all
            clear hgg REST
            cases s1
            case false =>
              have E : Hid (fromB fund al hl = false) := Lib.hid (BADN.out (by rw [ND.out]; simp))
              clear BADN GOODN ND
              rcases GS with rfl | ⟨rfl, rfl⟩
              all_goals
                go_wp2_with fail
                refine A1.out.mono ?_; rintro e w9 ⟨rfl, rfl⟩
                go_wp2_with fail
                go_ret2
                exact ⟨QV.out, .inl ⟨E.out, rfl⟩⟩
            cases s2
            case false =>
              have E : Hid (fromB fund al hl = false) := Lib.hid (BADN.out (by rw [ND.out]; simp))
              clear BADN GOODN ND
              rcases GS with rfl | ⟨rfl, rfl⟩
              all_goals
                go_wp2_with fail
                refine A1.out.mono ?_; rintro e w9 ⟨rfl, rfl⟩
                go_wp2_with fail
                refine A2.out.mono ?_; rintro e w9 ⟨rfl, rfl⟩
                go_wp2_with fail
                go_ret2
                exact ⟨QV.out, .inl ⟨E.out, rfl⟩⟩
            have N := Lib.hid (GOODN.out (by rw [ND.out]; rfl))
            clear BADN GOODN ND
            rcases GS with rfl | ⟨rfl, rfl⟩
            all_goals
              go_wp2_with fail
              refine A1.out.mono ?_; rintro e w9 ⟨rfl, rfl⟩
              go_wp2_with fail
              refine A2.out.mono ?_; rintro e w9 ⟨rfl, rfl⟩
              go_wp2_with fail
              refine H2.out _ _ ?_
              go_wp2_with fail
              go_roundw
              case rel => exact ⟨k + 1, hlt, by go_num, N.out, HBV.out⟩
              case measure => simp only [intOf]; omega
    case pos =>
      have hd : decide ((k : Int) < n) = true := decide_eq_true (by omega)
      have hki : (k : Int) < (n : Int) := by omega
      have QW := Lib.hid (Q5.out.trans (HB.out.mono Q5.out.size))
      obtain ⟨x, hx⟩ : ∃ x, al[k]? = some x := ⟨al[k]'(by have := HN.out; omega), List.getElem?_eq_getElem _⟩
      obtain ⟨b, o, rfl, rg⟩ := grd_rng HR.out hx
      have rgk : wr.rangeAt b (o + k * 4) (EA.cells x) := rng_below rg QW.out (Nat.le_refl _)
      have k0 : wr.cell? ⟨b, o + k * 4, none⟩ = some (.int .u32 x.nu) := rgk 0 _ rfl
      have k1 : wr.cell? ⟨b, o + k * 4 + 1, none⟩ = some (.int .i64 x.ca) := rgk 1 _ rfl
      have HX : Hid (docB 0 al = ((decide (prevN al k < x.nu) && amgB x.ca 0 1000000000000000) && docB x.nu (al.drop (k + 1)))) := Lib.hid (by rw [HD.out, drop_at hx]; rfl)
      have NX : Hid (docB 0 al = docB x.nu (al.drop (k + 1)) → docB 0 al = docB (prevN al (k + 1)) (al.drop (k + 1))) := Lib.hid (fun e => by rw [e]; show _ = docB ((al[k]?.getD zeroAc).nu) _; rw [hx]; rfl)
      have BAD : Hid (docB 0 al = false → fromB fund al hl = false) := Lib.hid (fun e => NO.out (by rw [DOC.out, e]; rfl))
      have AK := Lib.hid (fun U => (AM.out x.ca 0 1000000000000000 U).mono (R' := fun e w' => e = .returned (.bool (amgB x.ca 0 1000000000000000)) ∧ w' = U) fun e w' h => ⟨h.1, h.2.symm⟩)
      obtain ⟨t, ht⟩ : ∃ t, amgB x.ca 0 1000000000000000 = t := ⟨_, rfl⟩
      rw [ht] at HX AK
      clear ht rg rgk
      have PV : Hid (∀ k' y, k = k' + 1 → al[k']? = some y → prevN al k = y.nu) := Lib.hid (fun k' y e hy => by rw [e]; show (al[k']?.getD zeroAc).nu = y.nu; rw [hy]; rfl)
      have XNN : Hid (0 ≤ x.nu) := Lib.hid (HOK.out x (List.mem_of_getElem? hx)).nu.1
      clear hx
      cases hz0 : (x.nu == 0)
      case true =>
        have E : Hid (fromB fund al hl = false) := Lib.hid (BAD.out (by
          have e0 : x.nu = 0 := by simpa using hz0
          have : ¬ (prevN al k < x.nu) := by
            rw [e0]
            cases k with
            | zero => show ¬ ((0 : Int) < 0); omega
            | succ k' =>
              obtain ⟨y, hy⟩ : ∃ y, al[k']? = some y := ⟨al[k']'(by have := HN.out; omega), List.getElem?_eq_getElem _⟩
              rw [PV.out k' y rfl hy]
              have := (HOK.out y (List.mem_of_getElem? hy)).nu
              omega
          rw [HX.out, decide_eq_false this]; rfl))
        go_wp2_with fail
        go_quiet (fail)
        go_wp2_with fail
        go_ret2
        exact ⟨below_drewNE QW.out, .inl ⟨E.out, rfl⟩⟩
      case false =>
        have hne : x.nu ≠ 0 := by simpa using hz0
        by_cases hk0 : k = 0
        case pos =>
          have hdk : decide (0 < (k : Int)) = false := decide_eq_false (by omega)
          have hdk2 : decide (0 < k) = false := decide_eq_false (by omega)
          have PN : Hid (decide (prevN al k < x.nu) = true) := Lib.hid (decide_eq_true (by rw [hk0]; show 0 < x.nu; have := XNN.out; omega))
          clear hne hk0
          cases t
          case false =>
            have E : Hid (fromB fund al hl = false) := Lib.hid (BAD.out (by rw [HX.out, Bool.and_false, Bool.false_and]))
            go_wp2_with fail
            go_quiet ((go_at_call 31; exact Calls.quiet_of_same (AK.out _)))
            go_wp2_with fail
            go_ret2
            exact ⟨below_drewNE QW.out, .inl ⟨E.out, rfl⟩⟩
          case true =>
            have N : Hid (docB 0 al = docB x.nu (al.drop (k + 1))) := Lib.hid (by rw [HX.out, PN.out, Bool.and_true, Bool.true_and])
            go_wp2_with fail
            go_quiet ((go_at_call 31; exact Calls.quiet_of_same (AK.out _)))
            go_wp2_with fail
            go_roundw
            case rel => exact ⟨k + 1, hlt, by go_num, NX.out N.out, below_drewNE HB.out⟩
            case measure => simp only [intOf]; omega
        case neg =>
          obtain ⟨k', hk'⟩ : ∃ k', k = k' + 1 := ⟨k - 1, by omega⟩
          have hdk : decide (0 < (k : Int)) = true := decide_eq_true (by omega)
          have hdk2 : decide (0 < k) = true := decide_eq_true (by omega)
          have hkp : (0 : Int) < (k : Int) := by omega
          have hkp2 : 0 < k := by omega
          obtain ⟨y, hy⟩ : ∃ y, al[k']? = some y := ⟨al[k']'(by have := HN.out; omega), List.getElem?_eq_getElem _⟩
          have wi : IntKind.i64.wrap ((k : Int) - 1) = (k' : Int) := by rw [IntKind.wrap_i64]; omega
          have wi2 : wrap64 ((k : Int) - 1) = (k' : Int) := by unfold wrap64; omega
          have hkj : (k' : Int) < (n : Int) := by omega
          obtain ⟨b2, o2, e2, rg2⟩ := grd_rng HR.out hy
          cases e2
          have j0 : wr.cell? ⟨b, o + k' * 4, none⟩ = some (.int .u32 y.nu) := (rng_below rg2 QW.out (Nat.le_refl _) : wr.rangeAt b (o + k' * 4) (EA.cells y)) 0 _ rfl
          have PY := PV.out k' y hk' hy
          clear hy rg2 hne hk0 hk'
          by_cases hyx : x.nu ≤ y.nu
          case pos =>
            have dyx : decide (x.nu ≤ y.nu) = true := decide_eq_true hyx
            have E : Hid (fromB fund al hl = false) := Lib.hid (BAD.out (by rw [HX.out, PY, decide_eq_false (by omega), Bool.false_and, Bool.false_and]))
            clear PY hyx
            go_wp2_with fail
            go_quiet (fail)
            go_wp2_with fail
            go_ret2
            exact ⟨below_drewNE QW.out, .inl ⟨E.out, rfl⟩⟩
          case neg =>
            have dyx : decide (x.nu ≤ y.nu) = false := decide_eq_false hyx
            have PN : Hid (decide (prevN al k < x.nu) = true) := Lib.hid (decide_eq_true (by rw [PY]; omega))
            clear PY hyx
            cases t
            case false =>
              have E : Hid (fromB fund al hl = false) := Lib.hid (BAD.out (by rw [HX.out, Bool.and_false, Bool.false_and]))
              go_wp2_with fail
              go_quiet ((go_at_call 31; exact Calls.quiet_of_same (AK.out _)))
              go_wp2_with fail
              go_ret2
              exact ⟨below_drewNE QW.out, .inl ⟨E.out, rfl⟩⟩
            case true =>
              have N : Hid (docB 0 al = docB x.nu (al.drop (k + 1))) := Lib.hid (by rw [HX.out, PN.out, Bool.and_true, Bool.true_and])
              go_wp2_with fail
              go_quiet ((go_at_call 31; exact Calls.quiet_of_same (AK.out _)))
              go_wp2_with fail
              go_roundw
              case rel => exact ⟨k + 1, hlt, by go_num, NX.out N.out, below_drewNE HB.out⟩
              case measure => simp only [intOf]; omega
end Go.Proofs.Ythnmpnepgagmmaa
