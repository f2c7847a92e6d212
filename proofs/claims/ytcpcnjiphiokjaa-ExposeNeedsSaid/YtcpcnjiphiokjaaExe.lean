/- Whether a stake may be, and its worst case: the document's. -/
import Derived.Test.YtcpcnjiphiokjaaExc
import Derived.Test.YtcpcnjiphiokjaaSc
namespace Go.Proofs.Ytcpcnjiphiokjaa
open Go.RowKit Go.Shelf
set_option linter.unusedVariables false
set_option linter.unusedSimpArgs false

theorem stk_no {x : Sk} (h : ¬ (priceB x.lg.sp x.pr = true ∧ (-10000000 ≤ x.lg.q ∧ x.lg.q ≤ 10000000) ∧ (-1000000000000000 ≤ x.ba ∧ x.ba ≤ 1000000000000000) ∧ x.os.length ≤ 250 ∧ ∀ o, o ∈ x.os → mayO o = true)) : stkB x = false := by
  cases e : stkB x
  · rfl
  · exact absurd (stkB_iff.1 e) h
set_option maxRecDepth 100000 in
set_option maxHeartbeats 4000000 in
theorem rmay11 (x : Sk) (w : World) (ok : x.ok) (hin : x.In w) : Calls Try.prog 21 #[.agg (EK.cells x).toArray] w fun e w' => e = .returned (.bool (stkB x)) ∧ Below w.heap.size w w' := by
  obtain ⟨W1, hW1⟩ : ∃ W1, w.alloc (.cells (EK.cells x).toArray 33) = W1 := ⟨_, rfl⟩
  have x1 : EK.Bx 33 W1 w.heap.size x := by rw [← hW1]; exact gbx_new w x
  have b1 : Below w.heap.size w W1 := by rw [← hW1]; exact below_new w _
  have i1 : x.In W1 := grd_below hin b1 (Nat.le_refl _)
  have HN := Lib.hid hin.1
  have HX := Lib.hid fun (w2 : World) (q : Below W1.heap.size W1 w2) => (show EK.Bx 33 w2 w.heap.size x from gbx_below x1 q)
  have HR := Lib.hid fun (w2 : World) (q : Below W1.heap.size W1 w2) => (show EO.Rd w2 x.A x.n x.os from grd_below i1 q (Nat.le_refl _))
  have SPX := Lib.hid (bk_sp x1)
  have B1 := Lib.hid b1
  have HW := Lib.hid hW1
  have MY := Lib.hid (rmay_any x.lg.sp W1 ok.lg.sp)
  have PR := Lib.hid fun W => risprice_any x.lg.sp x.pr W ok.lg.sp
  have OKS := Lib.hid ok.os
  have L := Lib.hid x.lg.len
  have HM := Lib.hid ok.hn
  have PB : Hid (mayB x.lg.sp = false → priceB x.lg.sp x.pr = false) := Lib.hid fun h => not_price h x.pr
  have NO := Lib.hid (stk_no (x := x))
  have YES : Hid (priceB x.lg.sp x.pr = true → (-10000000 ≤ x.lg.q ∧ x.lg.q ≤ 10000000) → (-1000000000000000 ≤ x.ba ∧ x.ba ≤ 1000000000000000) → x.os.length ≤ 250 → (∀ o, o ∈ x.os → mayO o = true) → stkB x = true) := Lib.hid fun a b c d e => stkB_iff.2 ⟨a, b, c, d, e⟩
  obtain ⟨r, hr⟩ : ∃ r, stkB x = r := ⟨_, rfl⟩
  rw [hr] at NO YES ⊢
  obtain ⟨pb, hpb⟩ : ∃ r, priceB x.lg.sp x.pr = r := ⟨_, rfl⟩
  rw [hpb] at NO YES PB PR
  obtain ⟨mb, hmb⟩ : ∃ r, mayB x.lg.sp = r := ⟨_, rfl⟩
  rw [hmb] at PB MY
  clear x1 b1 hW1 ok hin i1 hr hpb hmb
  go_enter Try.func21, Try.ntmps21
  go_wp2_with (first | (rw [HW.out]) | ((with_reducible refine wl_sp10 L.out w.heap.size 0 SPX.out ?_ ?_ ?_); rfl; rfl))
  refine MY.out.mono ?_; rintro e w2 ⟨rfl, q2⟩
  have Q2 := Lib.hid q2
  have c25 := bk_q (HX.out w2 q2)
  have c26 := bk_ba (HX.out w2 q2)
  have c27 := bk_pr (HX.out w2 q2)
  have S2 := Lib.hid (bk_sp (HX.out w2 q2))
  clear q2
  cases mb
  · have E : Hid (r = false) := Lib.hid (NO.out fun h => by have := PB.out rfl; rw [this] at h; cases h.1)
    go_wp2_with fail
    go_ret
    exact ⟨by rw [E.out]; rfl, B1.out.trans (Q2.out.mono B1.out.size)⟩
  by_cases c1 : 10000000 < x.lg.q
  · have d1 : decide (10000000 < x.lg.q) = true := decide_eq_true c1
    have E : Hid (r = false) := Lib.hid (NO.out fun h => by have := h.2.1; omega)
    go_wp2_with fail
    go_ret
    exact ⟨by rw [E.out]; rfl, B1.out.trans (Q2.out.mono B1.out.size)⟩
  have d1 : decide (10000000 < x.lg.q) = false := decide_eq_false c1
  by_cases c2 : x.lg.q < -10000000
  · have d2 : decide (x.lg.q < -10000000) = true := decide_eq_true c2
    have E : Hid (r = false) := Lib.hid (NO.out fun h => by have := h.2.1; omega)
    go_wp2_with fail
    go_ret
    exact ⟨by rw [E.out]; rfl, B1.out.trans (Q2.out.mono B1.out.size)⟩
  have d2 : decide (x.lg.q < -10000000) = false := decide_eq_false c2
  by_cases c3 : 1000000000000000 < x.ba
  · have d3 : decide (1000000000000000 < x.ba) = true := decide_eq_true c3
    have E : Hid (r = false) := Lib.hid (NO.out fun h => by have := h.2.2.1; omega)
    go_wp2_with fail
    go_ret
    exact ⟨by rw [E.out]; rfl, B1.out.trans (Q2.out.mono B1.out.size)⟩
  have d3 : decide (1000000000000000 < x.ba) = false := decide_eq_false c3
  by_cases c4 : x.ba < -1000000000000000
  · have d4 : decide (x.ba < -1000000000000000) = true := decide_eq_true c4
    have E : Hid (r = false) := Lib.hid (NO.out fun h => by have := h.2.2.1; omega)
    go_wp2_with fail
    go_ret
    exact ⟨by rw [E.out]; rfl, B1.out.trans (Q2.out.mono B1.out.size)⟩
  have d4 : decide (x.ba < -1000000000000000) = false := decide_eq_false c4
  go_wp2_with ((with_reducible refine wl_sp10 L.out w.heap.size 0 S2.out ?_ ?_ ?_); rfl; rfl)
  refine (PR.out _).mono ?_; rintro e w3 ⟨rfl, q3⟩
  have Q3 := Lib.hid (Q2.out.trans (q3.mono Q2.out.size))
  have c28 := bk_os (HX.out w3 Q3.out)
  clear q3 c25 c26 c27
  cases pb
  · have E : Hid (r = false) := Lib.hid (NO.out fun h => by cases h.1)
    go_wp2_with fail
    go_ret
    exact ⟨by rw [E.out]; rfl, B1.out.trans (Q3.out.mono B1.out.size)⟩
  by_cases c5 : 250 < x.n
  · have d5 : decide ((250 : Int) < (x.n : Int)) = true := decide_eq_true (by omega)
    have E : Hid (r = false) := Lib.hid (NO.out fun h => by have := h.2.2.2.1; have := HN.out; omega)
    go_wp2_with fail
    go_ret
    exact ⟨by rw [E.out]; rfl, B1.out.trans (Q3.out.mono B1.out.size)⟩
  have d5 : decide ((250 : Int) < (x.n : Int)) = false := decide_eq_false (by omega)
  have C5 := Lib.hid c5
  have YE : Hid ((∀ o, o ∈ x.os → mayO o = true) → r = true) := Lib.hid fun h => YES.out rfl (by omega) (by omega) (by have := HN.out; omega) h
  have NE : Hid ((∃ o, o ∈ x.os ∧ mayO o = false) → r = false) := Lib.hid fun ⟨o, ho, h⟩ => NO.out fun hh => by have := hh.2.2.2.2 o ho; rw [h] at this; cases this
  obtain ⟨lg, ba, p, A, n, c, os⟩ := x
  dsimp only at *
  go_wp2_with fail
  go_loopw [3] (fun i wr => ∃ k : Nat, k ≤ n ∧ i = .int .i64 k ∧ Below W1.heap.size W1 wr ∧ ∀ (j : Nat) (o : Or), j < k → os[j]? = some o → mayO o = true) (fun i _ => n - (intOf i).toNat)
  case atStart => exact ⟨0, Nat.zero_le _, rfl, Q3.out, fun j o hj => absurd hj (Nat.not_lt_zero j)⟩
  case round =>
    obtain ⟨k, hk, rfl, hb, hno⟩ := hrel
    have BB := Lib.hid hb
    have NN := Lib.hid hno
    have k28 := bk_os (HX.out wr hb)
    clear hb hno
    by_cases hlt : k < n
    case neg =>
      obtain rfl : k = n := by omega
      have E : Hid (r = true) := Lib.hid (YE.out fun o ho => by
        obtain ⟨j, hj⟩ := List.getElem?_of_mem ho
        exact NN.out j o (by have := (List.getElem?_eq_some_iff.1 hj).1; have := HN.out; omega) hj)
      go_wp2_with fail
      go_ret
      exact ⟨by rw [E.out]; rfl, B1.out.trans (BB.out.mono B1.out.size)⟩
    case pos =>
      have hdk : decide ((k : Int) < n) = true := decide_eq_true (by omega)
      have hki : (k : Int) < (n : Int) := by omega
      obtain ⟨o, ho⟩ : ∃ o, os[k]? = some o := ⟨os[k]'(by have := HN.out; omega), List.getElem?_eq_getElem _⟩
      have MO := Lib.hid (rmay_o o wr (OKS.out o (List.mem_of_getElem? ho)))
      obtain ⟨bb, oo, rfl, rg⟩ := grd_rng (HR.out _ BB.out) ho
      have RG : Hid (wr.rangeAt bb (oo + k * 5) (EO.cells o)) := Lib.hid rg
      have HO := Lib.hid ho
      clear ho rg
      cases hmo : mayO o
      · have E : Hid (r = false) := Lib.hid (NE.out ⟨o, List.mem_of_getElem? HO.out, hmo⟩)
        rw [hmo] at MO
        clear hmo
        go_wp2_with ((with_reducible refine gwl_load TO bb (oo + k * 5) RG.out ?_ ?_ ?_); rfl; rfl)
        refine MO.out.mono ?_; rintro e w4 ⟨rfl, q4⟩
        have Q4 := Lib.hid q4
        clear q4
        go_wp2_with fail
        go_ret
        exact ⟨by rw [E.out]; rfl, B1.out.trans ((BB.out.trans (Q4.out.mono BB.out.size)).mono B1.out.size)⟩
      · have HMO := Lib.hid hmo
        rw [hmo] at MO
        clear hmo
        go_wp2_with ((with_reducible refine gwl_load TO bb (oo + k * 5) RG.out ?_ ?_ ?_); rfl; rfl)
        refine MO.out.mono ?_; rintro e w4 ⟨rfl, q4⟩
        have Q4 := Lib.hid q4
        clear q4
        go_wp2_with fail
        go_roundw
        case rel => exact ⟨k + 1, hlt, by go_num, BB.out.trans (Q4.out.mono BB.out.size), fun j y hj hy => by
            rcases Nat.lt_or_ge j k with c | c
            · exact NN.out j y c hy
            · obtain rfl : j = k := by omega
              rw [HO.out] at hy; cases hy; exact HMO.out⟩
        case measure => simp [intOf]; omega
end Go.Proofs.Ytcpcnjiphiokjaa
