/- Contracts of the document's ledger: Get, Position. -/
import Derived.Test.YthnmpnepgagmmaaDe
import Derived.Test.YthnmpnepgagmmaaMc
import Derived.Test.YthnmpnepgagmmaaMd
namespace Go.Proofs.Ythnmpnepgagmmaa
open Go.RowKit Go.Shelf
set_option linter.unusedVariables false
set_option linter.unusedSimpArgs false

theorem at_of_atL {L : Lg} (hi : LgI L) (n : Int) : (atL L.al n = -1 ∧ MA.at L.al n = none) ∨ ∃ (k : Nat) (x : Ac), atL L.al n = k ∧ L.al[k]? = some x ∧ MA.at L.al n = some x := by
  rcases atL_cases L.al n with ⟨e, h⟩ | ⟨k, x, e, hx, hn⟩
  · exact .inl ⟨e, at_none h⟩
  · exact .inr ⟨k, x, e, hx, at_some hi.asr.dis (List.mem_of_getElem? hx) hn⟩
set_option maxRecDepth 100000 in
set_option maxHeartbeats 4000000 in
theorem rget9 {B g : Nat} {va vh : Value} {L : Lg} (n : Int) (w : World) (h : Rl w B g va vh L) (hi : LgI L) (hn : U32' n) :
    Calls Try.prog 12 #[.pointer (some ⟨g, 0, none⟩), .int .u32 n] w fun e w' => e = .returned (.tuple #[.agg (EA.cells (getL L n).1).toArray, .int .i64 (getL L n).2]) ∧ Below w.heap.size w w' := by
  have hz := zero_ac
  obtain ⟨W1, hW1, b1, x1⟩ := newA9 w
  have h1 := h.below b1
  have c0 := h1.c0
  have c1 := h1.c1
  have AT := Lib.hid (rat9 n W1 h1 hn)
  have HO := Lib.hid h1.oa
  have HW := Lib.hid hW1
  have X1 := Lib.hid x1
  have B1 := Lib.hid b1
  have HA := at_of_atL hi n
  by_cases e0 : n = 0
  · have E : getL L n = (⟨0, L.fund, false, false⟩, 0) := by rw [e0]; exact getL_zero
    have hd : decide (n = 0) = true := decide_eq_true e0
    rw [E]
    generalize L.fund = fu at *
    clear h h1 b1 x1 hW1 E hn HA AT c1 HO
    subst e0
    go_enter Try.func12, Try.ntmps12
    go_wp2_with (first | (rw [HW.out]) | (refine gwl_store TA ⟨0, fu, false, false⟩ w.heap.size X1.out rfl rfl ?_))
    exact bodyPost_ret (gret TA rfl _ _ w.heap.size rfl rfl (gbx_set X1.out)) rfl ⟨rfl, below_row0 B1.out (Nat.le_refl _)⟩
  have hd : decide (n = 0) = false := decide_eq_false e0
  have hd2 : (n == 0) = false := by simpa using e0
  rcases HA with ⟨ea, eb⟩ | ⟨k, x, ea, hx, eb⟩
  · have E : getL L n = (zeroAc, 7) := by unfold getL; rw [if_neg e0, eb]
    rw [E]
    rw [ea] at AT
    clear h h1 b1 x1 hW1 E hn ea eb
    go_enter Try.func12, Try.ntmps12
    go_wp2_with (rw [HW.out])
    refine AT.out.mono ?_; rintro e w2 ⟨rfl, rfl⟩
    go_wp2_with (first | (refine gwl_build0 built_ac ?_) | (refine gwl_store TA zeroAc w.heap.size X1.out rfl rfl ?_))
    exact bodyPost_ret (gret TA rfl _ _ w.heap.size rfl rfl (gbx_set X1.out)) rfl ⟨rfl, below_row0 B1.out (Nat.le_refl _)⟩
  · have E : getL L n = (x, 0) := by unfold getL; rw [if_neg e0, eb]
    rw [E]
    rw [ea] at AT
    obtain ⟨b, c, rfl⟩ := gown_slot HO.out (by have := (List.getElem?_eq_some_iff.1 hx).1; omega)
    have RG : Hid (W1.rangeAt b (k * 4) (EA.cells x)) := Lib.hid (gown_rng HO.out hx)
    have hk : (k : Int) < (L.al.length : Int) := by have := (List.getElem?_eq_some_iff.1 hx).1; omega
    have kd : decide ((k : Int) < 0) = false := decide_eq_false (by omega)
    generalize L.al.length = m at *
    clear h h1 b1 x1 hW1 E hn ea eb hx HO
    go_enter Try.func12, Try.ntmps12
    go_wp2_with (rw [HW.out])
    refine AT.out.mono ?_; rintro e w2 ⟨rfl, rfl⟩
    go_wp2_with (first | ((with_reducible refine gwl_load TA b (k * 4) RG.out ?_ ?_ ?_); rfl; rfl) | (refine gwl_store TA x w.heap.size X1.out rfl rfl ?_))
    exact bodyPost_ret (gret TA rfl _ _ w.heap.size rfl rfl (gbx_set X1.out)) rfl ⟨rfl, below_row0 B1.out (Nat.le_refl _)⟩
set_option maxRecDepth 100000 in
set_option maxHeartbeats 4000000 in
theorem rpos9 {B g : Nat} {va vh : Value} {L : Lg} (c n : Int) (w : World) (h : Rl w B g va vh L) (hi : LgI L) (hc : U32' c) (hn : U32' n) :
    Calls Try.prog 22 #[.pointer (some ⟨g, 0, none⟩), .int .u32 c, .int .u32 n] w fun e w' => e = .returned (.agg (EP.cells (posH L.hl c n)).toArray) ∧ Below w.heap.size w w' := by
  have hz := zero_po
  obtain ⟨W1, hW1, b1, x1⟩ := newP9 w
  have h1 := h.below b1
  have c2 := h1.c2
  obtain ⟨A, cc, rfl, _⟩ := gown_form h1.oh
  have HO := Lib.hid h1.oh
  have HW := Lib.hid hW1
  have X1 := Lib.hid x1
  have B1 := Lib.hid b1
  have HD := Lib.hid hi.psr.dis
  obtain ⟨hs, hhs⟩ : ∃ hs, L.hl = hs := ⟨_, rfl⟩
  rw [hhs] at c2 HO HD ⊢
  obtain ⟨m, hm⟩ : ∃ m, hs.length = m := ⟨_, rfl⟩
  rw [hm] at c2 HO
  have HL := Lib.hid hm
  obtain ⟨c9, c10⟩ := hc
  obtain ⟨n9, n10⟩ := hn
  clear h h1 b1 x1 hW1 hi hhs hm
  go_enter Try.func22, Try.ntmps22
  go_wp2_with (rw [HW.out])
  go_loop [7] (fun i => ∃ k : Nat, k ≤ m ∧ i = .int .i64 k ∧ ∀ (j : Nat) (x : Po), j < k → hs[j]? = some x → MP.key x ≠ (c, n)) (fun i => m - (intOf i).toNat)
  case atStart => exact ⟨0, Nat.zero_le _, rfl, fun j x hj => absurd hj (Nat.not_lt_zero j)⟩
  case round =>
    obtain ⟨k, hk, rfl, hno⟩ := hrel
    have HN := Lib.hid hno
    clear hno
    by_cases hlt : k < m
    case neg =>
      obtain rfl : k = m := by omega
      have E : Hid (posH hs c n = ⟨c, n, 0, 0⟩) := Lib.hid (by
        unfold posH
        rw [at_none (M := MP) (c := (c, n)) fun x hx => by
          obtain ⟨j, hj⟩ := List.getElem?_of_mem hx
          exact HN.out j x (by rw [← HL.out]; exact (List.getElem?_eq_some_iff.1 hj).1) hj])
      go_wp2_with (first | (refine gwl_store TP ⟨c, n, 0, 0⟩ w.heap.size X1.out rfl rfl ?_))
      rw [E.out]
      exact bodyPost_ret (gret1 TP rfl _ _ w.heap.size rfl (gbx_set X1.out)) rfl ⟨rfl, below_row0 B1.out (Nat.le_refl _)⟩
    case pos =>
      have hd : decide ((k : Int) < m) = true := decide_eq_true (by omega)
      obtain ⟨x, hx⟩ : ∃ x, hs[k]? = some x := ⟨hs[k]'(by rw [HL.out]; exact hlt), List.getElem?_eq_getElem _⟩
      obtain ⟨b, c', eb⟩ := gown_slot HO.out (by have := HL.out; omega)
      injection eb with e1 en e2
      clear en
      subst e1 e2
      have hcap := gown_cap HO.out
      have k0 : W1.cell? ⟨b, k * 4, none⟩ = some (.int .u32 x.co) := gown_at HO.out hx (i := 0) (by decide)
      have k1 : W1.cell? ⟨b, k * 4 + 1, none⟩ = some (.int .u32 x.ac) := gown_at HO.out hx (i := 1) (by decide)
      have RG : Hid (W1.rangeAt b (k * 4) (EP.cells x)) := Lib.hid (gown_rng HO.out hx)
      have HX := Lib.hid hx
      have EQ : Hid (x.co = c → x.ac = n → posH hs c n = x) := Lib.hid fun h1 h2 => by
        unfold posH
        rw [at_some HD.out (List.mem_of_getElem? hx) (show MP.key x = (c, n) by rw [← h1, ← h2]; rfl)]
      have NX : Hid ((x.co == c && x.ac == n) = false → ∀ (j : Nat) (y : Po), j < k + 1 → hs[j]? = some y → MP.key y ≠ (c, n)) := Lib.hid fun hne j y hj hy => by
        rcases Nat.lt_or_ge j k with q | q
        · exact HN.out j y q hy
        · obtain rfl : j = k := by omega
          rw [HX.out] at hy
          cases hy
          intro e
          injection e with e1 e2
          rw [e1, e2] at hne
          simp at hne
      generalize x.co = xc at *
      generalize x.ac = xa at *
      clear hx
      obtain ⟨t1, h1⟩ : ∃ t, (xc == c) = t := ⟨_, rfl⟩
      obtain ⟨t2, h2⟩ : ∃ t, (xa == n) = t := ⟨_, rfl⟩
      rw [h1, h2] at NX
      cases t1
      · have N2 := Lib.hid (NX.out rfl)
        go_wp2_with fail
        go_round
        case rel => exact ⟨k + 1, hlt, by go_num, N2.out⟩
        case measure => simp [intOf]; omega
      · cases t2
        · have N2 := Lib.hid (NX.out rfl)
          go_wp2_with fail
          go_round
          case rel => exact ⟨k + 1, hlt, by go_num, N2.out⟩
          case measure => simp [intOf]; omega
        · have E := Lib.hid (EQ.out (beq_iff_eq.1 h1) (beq_iff_eq.1 h2))
          go_wp2_with (first | ((with_reducible refine gwl_load TP b (k * 4) RG.out ?_ ?_ ?_); rfl; rfl) | (refine gwl_store TP x w.heap.size X1.out rfl rfl ?_))
          rw [E.out]
          exact bodyPost_ret (gret1 TP rfl _ _ w.heap.size rfl (gbx_set X1.out)) rfl ⟨rfl, below_row0 B1.out (Nat.le_refl _)⟩
end Go.Proofs.Ythnmpnepgagmmaa
