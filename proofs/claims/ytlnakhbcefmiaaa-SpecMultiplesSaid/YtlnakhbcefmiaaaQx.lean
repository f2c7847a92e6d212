/- The walk of the statement SpecMultiples, given the program's own calls. -/
import Derived.Test.YtlnakhbcefmiaaaQl
namespace Go.Proofs.Ytlnakhbcefmiaaa
open Go.RowKit

theorem mult_sum {t a b : Int} (h1 : a % t = 0) (h2 : b % t = 0) : (a + b) % t = 0 := Int.emod_eq_zero_of_dvd (Int.dvd_add (Int.dvd_of_emod_eq_zero h1) (Int.dvd_of_emod_eq_zero h2))
theorem mult_sub {t a b : Int} (h1 : a % t = 0) (h2 : b % t = 0) : (a - b) % t = 0 := Int.emod_eq_zero_of_dvd (Int.dvd_sub (Int.dvd_of_emod_eq_zero h1) (Int.dvd_of_emod_eq_zero h2))
theorem price_parts {s : Sp} {n : Int} (h : priceB s n = true) : mayB s = true ∧ (1 ≤ n ∧ n ≤ 10000000) ∧ n % s.ti = 0 := by
  unfold priceB at h
  rw [Bool.and_eq_true] at h
  exact ⟨h.1, prB_iff.1 h.2⟩
theorem qty_parts {s : Sp} {n : Int} (h : qtyB s n = true) : mayB s = true ∧ (1 ≤ n ∧ n ≤ 1000000) ∧ n % s.lo = 0 := by
  unfold qtyB at h
  rw [Bool.and_eq_true] at h
  exact ⟨h.1, of_decide_eq_true h.2⟩
theorem price_sum {s : Sp} {a b : Int} (h1 : priceB s a = true) (h2 : priceB s b = true) : priceB s (a + b) = decide (a + b ≤ 10000000) := by
  obtain ⟨m, r1, z1⟩ := price_parts h1
  obtain ⟨_, r2, z2⟩ := price_parts h2
  have z := mult_sum z1 z2
  rw [may_price m]
  unfold prB
  exact decide_eq_decide.2 ⟨fun h => h.1.2, fun h => ⟨⟨by omega, h⟩, z⟩⟩
theorem price_sub {s : Sp} {a b : Int} (h1 : priceB s a = true) (h2 : priceB s b = true) : priceB s (a - b) = decide (b < a) := by
  obtain ⟨m, r1, z1⟩ := price_parts h1
  obtain ⟨_, r2, z2⟩ := price_parts h2
  have z := mult_sub z1 z2
  rw [may_price m]
  unfold prB
  exact decide_eq_decide.2 ⟨fun h => by have := h.1.1; omega, fun h => ⟨⟨by omega, by omega⟩, z⟩⟩
theorem qty_sum {s : Sp} {a b : Int} (h1 : qtyB s a = true) (h2 : qtyB s b = true) : qtyB s (a + b) = decide (a + b ≤ 1000000) := by
  obtain ⟨m, r1, z1⟩ := qty_parts h1
  obtain ⟨_, r2, z2⟩ := qty_parts h2
  have z := mult_sum z1 z2
  unfold qtyB
  rw [m, Bool.true_and]
  exact decide_eq_decide.2 ⟨fun h => h.1.2, fun h => ⟨⟨by omega, h⟩, z⟩⟩
theorem qty_sub {s : Sp} {a b : Int} (h1 : qtyB s a = true) (h2 : qtyB s b = true) : qtyB s (a - b) = decide (b < a) := by
  obtain ⟨m, r1, z1⟩ := qty_parts h1
  obtain ⟨_, r2, z2⟩ := qty_parts h2
  have z := mult_sub z1 z2
  unfold qtyB
  rw [m, Bool.true_and]
  exact decide_eq_decide.2 ⟨fun h => by have := h.1.1; omega, fun h => ⟨⟨by omega, by omega⟩, z⟩⟩

set_option maxRecDepth 100000 in
set_option maxHeartbeats 2000000 in
theorem mult_out (K : SpecK) (s : Sp) (a b : Int) (w : World) (_ok : s.ok) (h : a < 1 ∨ 10000000 < a ∨ b < 1 ∨ 10000000 < b) : Calls Try.prog 7 #[.agg s.cells, .int .i64 a, .int .i64 b] w fun e w' => e = .returned (.bool true) ∧ Below w.heap.size w w' := by
  have KN := Lib.hid (fun W => known_spec K W)
  have B := Lib.hid ((Below.refl w.heap.size w).alloc (Nat.le_refl _) (.cells s.cells 25))
  clear K
  have hc : a < 1 ∨ (1 ≤ a ∧ 10000000 < a) ∨ (1 ≤ a ∧ a ≤ 10000000 ∧ b < 1) ∨ (1 ≤ a ∧ a ≤ 10000000 ∧ 1 ≤ b ∧ 10000000 < b) := by omega
  clear h
  rcases hc with c | ⟨c1, c2⟩ | ⟨c1, c2, c3⟩ | ⟨c1, c2, c3, c4⟩
  · have d1 : decide (a < 1) = true := decide_eq_true c
    go_enter Try.func7, Try.ntmps7
    go_wp2_with fail
    refine (KN.out _).mono ?_; rintro e w1 ⟨rfl, q⟩
    have B2 := Lib.hid (B.out.trans (q.mono B.out.size))
    clear q
    go_wp2_with fail
    go_ret
    exact ⟨rfl, B2.out⟩
  · have d1 : decide (a < 1) = false := decide_eq_false (by omega)
    have d2 : decide (10000000 < a) = true := decide_eq_true c2
    go_enter Try.func7, Try.ntmps7
    go_wp2_with fail
    refine (KN.out _).mono ?_; rintro e w1 ⟨rfl, q⟩
    have B2 := Lib.hid (B.out.trans (q.mono B.out.size))
    clear q
    go_wp2_with fail
    go_ret
    exact ⟨rfl, B2.out⟩
  · have d1 : decide (a < 1) = false := decide_eq_false (by omega)
    have d2 : decide (10000000 < a) = false := decide_eq_false (by omega)
    have d3 : decide (b < 1) = true := decide_eq_true c3
    go_enter Try.func7, Try.ntmps7
    go_wp2_with fail
    refine (KN.out _).mono ?_; rintro e w1 ⟨rfl, q⟩
    have B2 := Lib.hid (B.out.trans (q.mono B.out.size))
    clear q
    go_wp2_with fail
    go_ret
    exact ⟨rfl, B2.out⟩
  · have d1 : decide (a < 1) = false := decide_eq_false (by omega)
    have d2 : decide (10000000 < a) = false := decide_eq_false (by omega)
    have d3 : decide (b < 1) = false := decide_eq_false (by omega)
    have d4 : decide (10000000 < b) = true := decide_eq_true c4
    go_enter Try.func7, Try.ntmps7
    go_wp2_with fail
    refine (KN.out _).mono ?_; rintro e w1 ⟨rfl, q⟩
    have B2 := Lib.hid (B.out.trans (q.mono B.out.size))
    clear q
    go_wp2_with fail
    go_ret
    exact ⟨rfl, B2.out⟩
set_option maxRecDepth 100000 in
set_option maxHeartbeats 16000000 in
theorem mult_in (K : SpecK) (s : Sp) (a b : Int) (w : World) (ok : s.ok) (a1 : 1 ≤ a) (a2 : a ≤ 10000000) (b1 : 1 ≤ b) (b2 : b ≤ 10000000) : Calls Try.prog 7 #[.agg s.cells, .int .i64 a, .int .i64 b] w fun e w' => e = .returned (.bool true) ∧ Below w.heap.size w w' := by
  have KN := Lib.hid (fun W => known_spec K W)
  have PA := Lib.hid (fun W => K.price s a W ok (by unfold I64; omega))
  have PB := Lib.hid (fun W => K.price s b W ok (by unfold I64; omega))
  have PS := Lib.hid (fun W => K.price s (a + b) W ok (by unfold I64; omega))
  have PD := Lib.hid (fun W => K.price s (a - b) W ok (by unfold I64; omega))
  have QA := Lib.hid (fun W => K.qty s a W ok (by unfold I64; omega))
  have QB := Lib.hid (fun W => K.qty s b W ok (by unfold I64; omega))
  have QS := Lib.hid (fun W => K.qty s (a + b) W ok (by unfold I64; omega))
  have QD := Lib.hid (fun W => K.qty s (a - b) W ok (by unfold I64; omega))
  have PX := Lib.hid (fun h1 h2 => price_sum (s := s) (a := a) (b := b) h1 h2)
  have PY := Lib.hid (fun h1 h2 => price_sub (s := s) (a := a) (b := b) h1 h2)
  have QX := Lib.hid (fun h1 h2 => qty_sum (s := s) (a := a) (b := b) h1 h2)
  have QY := Lib.hid (fun h1 h2 => qty_sub (s := s) (a := a) (b := b) h1 h2)
  have HB := Lib.hid (box_new w ok.len)
  have B := Lib.hid ((Below.refl w.heap.size w).alloc (Nat.le_refl _) (.cells s.cells 25))
  have d1 : decide (a < 1) = false := decide_eq_false (by omega)
  have d2 : decide (10000000 < a) = false := decide_eq_false (by omega)
  have d3 : decide (b < 1) = false := decide_eq_false (by omega)
  have d4 : decide (10000000 < b) = false := decide_eq_false (by omega)
  clear K ok
  go_enter Try.func7, Try.ntmps7
  cases hPa : priceB s a
  · rw [hPa] at PA
    clear hPa PB PS PD PX PY
    go_wp2_with ((with_reducible refine wl_load_sp w.heap.size HB.out ?_ ?_ ?_); rfl; rfl)
    refine (PA.out _).mono ?_; rintro e w1 ⟨rfl, q⟩
    have B2 := Lib.hid (B.out.trans (q.mono B.out.size))
    have HB2 := Lib.hid (HB.out.below q)
    clear q B HB
    have B := B2
    have HB := HB2
    clear B2 HB2
    cases hQa : qtyB s a
    · rw [hQa] at QA
      clear hQa QB QS QD QX QY
      go_wp2_with ((with_reducible refine wl_load_sp w.heap.size HB.out ?_ ?_ ?_); rfl; rfl)
      refine (QA.out _).mono ?_; rintro e w1 ⟨rfl, q⟩
      have B2 := Lib.hid (B.out.trans (q.mono B.out.size))
      have HB2 := Lib.hid (HB.out.below q)
      clear q B HB
      have B := B2
      have HB := HB2
      clear B2 HB2
      go_wp2_with fail
      refine (KN.out _).mono ?_; rintro e w1 ⟨rfl, q⟩
      have B2 := Lib.hid (B.out.trans (q.mono B.out.size))
      clear q
      go_wp2_with fail
      go_ret
      exact ⟨rfl, B2.out⟩
    · rw [hQa] at QA
      cases hQb : qtyB s b
      · rw [hQb] at QB
        clear hQa hQb QS QD QX QY
        go_wp2_with ((with_reducible refine wl_load_sp w.heap.size HB.out ?_ ?_ ?_); rfl; rfl)
        refine (QA.out _).mono ?_; rintro e w1 ⟨rfl, q⟩
        have B2 := Lib.hid (B.out.trans (q.mono B.out.size))
        have HB2 := Lib.hid (HB.out.below q)
        clear q B HB
        have B := B2
        have HB := HB2
        clear B2 HB2
        go_wp2_with ((with_reducible refine wl_load_sp w.heap.size HB.out ?_ ?_ ?_); rfl; rfl)
        refine (QB.out _).mono ?_; rintro e w1 ⟨rfl, q⟩
        have B2 := Lib.hid (B.out.trans (q.mono B.out.size))
        have HB2 := Lib.hid (HB.out.below q)
        clear q B HB
        have B := B2
        have HB := HB2
        clear B2 HB2
        go_wp2_with fail
        refine (KN.out _).mono ?_; rintro e w1 ⟨rfl, q⟩
        have B2 := Lib.hid (B.out.trans (q.mono B.out.size))
        clear q
        go_wp2_with fail
        go_ret
        exact ⟨rfl, B2.out⟩
      · rw [hQb] at QB
        rw [QX.out hQa hQb] at QS
        rw [QY.out hQa hQb] at QD
        clear hQa hQb QX QY
        go_wp2_with ((with_reducible refine wl_load_sp w.heap.size HB.out ?_ ?_ ?_); rfl; rfl)
        refine (QA.out _).mono ?_; rintro e w1 ⟨rfl, q⟩
        have B2 := Lib.hid (B.out.trans (q.mono B.out.size))
        have HB2 := Lib.hid (HB.out.below q)
        clear q B HB
        have B := B2
        have HB := HB2
        clear B2 HB2
        go_wp2_with ((with_reducible refine wl_load_sp w.heap.size HB.out ?_ ?_ ?_); rfl; rfl)
        refine (QB.out _).mono ?_; rintro e w1 ⟨rfl, q⟩
        have B2 := Lib.hid (B.out.trans (q.mono B.out.size))
        have HB2 := Lib.hid (HB.out.below q)
        clear q B HB
        have B := B2
        have HB := HB2
        clear B2 HB2
        go_wp2_with ((with_reducible refine wl_load_sp w.heap.size HB.out ?_ ?_ ?_); rfl; rfl)
        refine (QS.out _).mono ?_; rintro e w1 ⟨rfl, q⟩
        have B2 := Lib.hid (B.out.trans (q.mono B.out.size))
        have HB2 := Lib.hid (HB.out.below q)
        clear q B HB
        have B := B2
        have HB := HB2
        clear B2 HB2
        go_wp2_with ((with_reducible refine wl_load_sp w.heap.size HB.out ?_ ?_ ?_); rfl; rfl)
        refine (QD.out _).mono ?_; rintro e w1 ⟨rfl, q⟩
        have B2 := Lib.hid (B.out.trans (q.mono B.out.size))
        have HB2 := Lib.hid (HB.out.below q)
        clear q B HB
        have B := B2
        have HB := HB2
        clear B2 HB2
        go_wp2_with fail
        refine (KN.out _).mono ?_; rintro e w1 ⟨rfl, q⟩
        have B2 := Lib.hid (B.out.trans (q.mono B.out.size))
        clear q
        go_wp2_with fail
        go_ret
        exact ⟨rfl, B2.out⟩
  · rw [hPa] at PA
    cases hPb : priceB s b
    · rw [hPb] at PB
      clear hPa hPb PS PD PX PY
      go_wp2_with ((with_reducible refine wl_load_sp w.heap.size HB.out ?_ ?_ ?_); rfl; rfl)
      refine (PA.out _).mono ?_; rintro e w1 ⟨rfl, q⟩
      have B2 := Lib.hid (B.out.trans (q.mono B.out.size))
      have HB2 := Lib.hid (HB.out.below q)
      clear q B HB
      have B := B2
      have HB := HB2
      clear B2 HB2
      go_wp2_with ((with_reducible refine wl_load_sp w.heap.size HB.out ?_ ?_ ?_); rfl; rfl)
      refine (PB.out _).mono ?_; rintro e w1 ⟨rfl, q⟩
      have B2 := Lib.hid (B.out.trans (q.mono B.out.size))
      have HB2 := Lib.hid (HB.out.below q)
      clear q B HB
      have B := B2
      have HB := HB2
      clear B2 HB2
      cases hQa : qtyB s a
      · rw [hQa] at QA
        clear hQa QB QS QD QX QY
        go_wp2_with ((with_reducible refine wl_load_sp w.heap.size HB.out ?_ ?_ ?_); rfl; rfl)
        refine (QA.out _).mono ?_; rintro e w1 ⟨rfl, q⟩
        have B2 := Lib.hid (B.out.trans (q.mono B.out.size))
        have HB2 := Lib.hid (HB.out.below q)
        clear q B HB
        have B := B2
        have HB := HB2
        clear B2 HB2
        go_wp2_with fail
        refine (KN.out _).mono ?_; rintro e w1 ⟨rfl, q⟩
        have B2 := Lib.hid (B.out.trans (q.mono B.out.size))
        clear q
        go_wp2_with fail
        go_ret
        exact ⟨rfl, B2.out⟩
      · rw [hQa] at QA
        cases hQb : qtyB s b
        · rw [hQb] at QB
          clear hQa hQb QS QD QX QY
          go_wp2_with ((with_reducible refine wl_load_sp w.heap.size HB.out ?_ ?_ ?_); rfl; rfl)
          refine (QA.out _).mono ?_; rintro e w1 ⟨rfl, q⟩
          have B2 := Lib.hid (B.out.trans (q.mono B.out.size))
          have HB2 := Lib.hid (HB.out.below q)
          clear q B HB
          have B := B2
          have HB := HB2
          clear B2 HB2
          go_wp2_with ((with_reducible refine wl_load_sp w.heap.size HB.out ?_ ?_ ?_); rfl; rfl)
          refine (QB.out _).mono ?_; rintro e w1 ⟨rfl, q⟩
          have B2 := Lib.hid (B.out.trans (q.mono B.out.size))
          have HB2 := Lib.hid (HB.out.below q)
          clear q B HB
          have B := B2
          have HB := HB2
          clear B2 HB2
          go_wp2_with fail
          refine (KN.out _).mono ?_; rintro e w1 ⟨rfl, q⟩
          have B2 := Lib.hid (B.out.trans (q.mono B.out.size))
          clear q
          go_wp2_with fail
          go_ret
          exact ⟨rfl, B2.out⟩
        · rw [hQb] at QB
          rw [QX.out hQa hQb] at QS
          rw [QY.out hQa hQb] at QD
          clear hQa hQb QX QY
          go_wp2_with ((with_reducible refine wl_load_sp w.heap.size HB.out ?_ ?_ ?_); rfl; rfl)
          refine (QA.out _).mono ?_; rintro e w1 ⟨rfl, q⟩
          have B2 := Lib.hid (B.out.trans (q.mono B.out.size))
          have HB2 := Lib.hid (HB.out.below q)
          clear q B HB
          have B := B2
          have HB := HB2
          clear B2 HB2
          go_wp2_with ((with_reducible refine wl_load_sp w.heap.size HB.out ?_ ?_ ?_); rfl; rfl)
          refine (QB.out _).mono ?_; rintro e w1 ⟨rfl, q⟩
          have B2 := Lib.hid (B.out.trans (q.mono B.out.size))
          have HB2 := Lib.hid (HB.out.below q)
          clear q B HB
          have B := B2
          have HB := HB2
          clear B2 HB2
          go_wp2_with ((with_reducible refine wl_load_sp w.heap.size HB.out ?_ ?_ ?_); rfl; rfl)
          refine (QS.out _).mono ?_; rintro e w1 ⟨rfl, q⟩
          have B2 := Lib.hid (B.out.trans (q.mono B.out.size))
          have HB2 := Lib.hid (HB.out.below q)
          clear q B HB
          have B := B2
          have HB := HB2
          clear B2 HB2
          go_wp2_with ((with_reducible refine wl_load_sp w.heap.size HB.out ?_ ?_ ?_); rfl; rfl)
          refine (QD.out _).mono ?_; rintro e w1 ⟨rfl, q⟩
          have B2 := Lib.hid (B.out.trans (q.mono B.out.size))
          have HB2 := Lib.hid (HB.out.below q)
          clear q B HB
          have B := B2
          have HB := HB2
          clear B2 HB2
          go_wp2_with fail
          refine (KN.out _).mono ?_; rintro e w1 ⟨rfl, q⟩
          have B2 := Lib.hid (B.out.trans (q.mono B.out.size))
          clear q
          go_wp2_with fail
          go_ret
          exact ⟨rfl, B2.out⟩
    · rw [hPb] at PB
      rw [PX.out hPa hPb] at PS
      rw [PY.out hPa hPb] at PD
      clear hPa hPb PX PY
      go_wp2_with ((with_reducible refine wl_load_sp w.heap.size HB.out ?_ ?_ ?_); rfl; rfl)
      refine (PA.out _).mono ?_; rintro e w1 ⟨rfl, q⟩
      have B2 := Lib.hid (B.out.trans (q.mono B.out.size))
      have HB2 := Lib.hid (HB.out.below q)
      clear q B HB
      have B := B2
      have HB := HB2
      clear B2 HB2
      go_wp2_with ((with_reducible refine wl_load_sp w.heap.size HB.out ?_ ?_ ?_); rfl; rfl)
      refine (PB.out _).mono ?_; rintro e w1 ⟨rfl, q⟩
      have B2 := Lib.hid (B.out.trans (q.mono B.out.size))
      have HB2 := Lib.hid (HB.out.below q)
      clear q B HB
      have B := B2
      have HB := HB2
      clear B2 HB2
      go_wp2_with ((with_reducible refine wl_load_sp w.heap.size HB.out ?_ ?_ ?_); rfl; rfl)
      refine (PS.out _).mono ?_; rintro e w1 ⟨rfl, q⟩
      have B2 := Lib.hid (B.out.trans (q.mono B.out.size))
      have HB2 := Lib.hid (HB.out.below q)
      clear q B HB
      have B := B2
      have HB := HB2
      clear B2 HB2
      go_wp2_with ((with_reducible refine wl_load_sp w.heap.size HB.out ?_ ?_ ?_); rfl; rfl)
      refine (PD.out _).mono ?_; rintro e w1 ⟨rfl, q⟩
      have B2 := Lib.hid (B.out.trans (q.mono B.out.size))
      have HB2 := Lib.hid (HB.out.below q)
      clear q B HB
      have B := B2
      have HB := HB2
      clear B2 HB2
      cases hQa : qtyB s a
      · rw [hQa] at QA
        clear hQa QB QS QD QX QY
        go_wp2_with ((with_reducible refine wl_load_sp w.heap.size HB.out ?_ ?_ ?_); rfl; rfl)
        refine (QA.out _).mono ?_; rintro e w1 ⟨rfl, q⟩
        have B2 := Lib.hid (B.out.trans (q.mono B.out.size))
        have HB2 := Lib.hid (HB.out.below q)
        clear q B HB
        have B := B2
        have HB := HB2
        clear B2 HB2
        go_wp2_with fail
        refine (KN.out _).mono ?_; rintro e w1 ⟨rfl, q⟩
        have B2 := Lib.hid (B.out.trans (q.mono B.out.size))
        clear q
        go_wp2_with fail
        go_ret
        exact ⟨rfl, B2.out⟩
      · rw [hQa] at QA
        cases hQb : qtyB s b
        · rw [hQb] at QB
          clear hQa hQb QS QD QX QY
          go_wp2_with ((with_reducible refine wl_load_sp w.heap.size HB.out ?_ ?_ ?_); rfl; rfl)
          refine (QA.out _).mono ?_; rintro e w1 ⟨rfl, q⟩
          have B2 := Lib.hid (B.out.trans (q.mono B.out.size))
          have HB2 := Lib.hid (HB.out.below q)
          clear q B HB
          have B := B2
          have HB := HB2
          clear B2 HB2
          go_wp2_with ((with_reducible refine wl_load_sp w.heap.size HB.out ?_ ?_ ?_); rfl; rfl)
          refine (QB.out _).mono ?_; rintro e w1 ⟨rfl, q⟩
          have B2 := Lib.hid (B.out.trans (q.mono B.out.size))
          have HB2 := Lib.hid (HB.out.below q)
          clear q B HB
          have B := B2
          have HB := HB2
          clear B2 HB2
          go_wp2_with fail
          refine (KN.out _).mono ?_; rintro e w1 ⟨rfl, q⟩
          have B2 := Lib.hid (B.out.trans (q.mono B.out.size))
          clear q
          go_wp2_with fail
          go_ret
          exact ⟨rfl, B2.out⟩
        · rw [hQb] at QB
          rw [QX.out hQa hQb] at QS
          rw [QY.out hQa hQb] at QD
          clear hQa hQb QX QY
          go_wp2_with ((with_reducible refine wl_load_sp w.heap.size HB.out ?_ ?_ ?_); rfl; rfl)
          refine (QA.out _).mono ?_; rintro e w1 ⟨rfl, q⟩
          have B2 := Lib.hid (B.out.trans (q.mono B.out.size))
          have HB2 := Lib.hid (HB.out.below q)
          clear q B HB
          have B := B2
          have HB := HB2
          clear B2 HB2
          go_wp2_with ((with_reducible refine wl_load_sp w.heap.size HB.out ?_ ?_ ?_); rfl; rfl)
          refine (QB.out _).mono ?_; rintro e w1 ⟨rfl, q⟩
          have B2 := Lib.hid (B.out.trans (q.mono B.out.size))
          have HB2 := Lib.hid (HB.out.below q)
          clear q B HB
          have B := B2
          have HB := HB2
          clear B2 HB2
          go_wp2_with ((with_reducible refine wl_load_sp w.heap.size HB.out ?_ ?_ ?_); rfl; rfl)
          refine (QS.out _).mono ?_; rintro e w1 ⟨rfl, q⟩
          have B2 := Lib.hid (B.out.trans (q.mono B.out.size))
          have HB2 := Lib.hid (HB.out.below q)
          clear q B HB
          have B := B2
          have HB := HB2
          clear B2 HB2
          go_wp2_with ((with_reducible refine wl_load_sp w.heap.size HB.out ?_ ?_ ?_); rfl; rfl)
          refine (QD.out _).mono ?_; rintro e w1 ⟨rfl, q⟩
          have B2 := Lib.hid (B.out.trans (q.mono B.out.size))
          have HB2 := Lib.hid (HB.out.below q)
          clear q B HB
          have B := B2
          have HB := HB2
          clear B2 HB2
          go_wp2_with fail
          refine (KN.out _).mono ?_; rintro e w1 ⟨rfl, q⟩
          have B2 := Lib.hid (B.out.trans (q.mono B.out.size))
          clear q
          go_wp2_with fail
          go_ret
          exact ⟨rfl, B2.out⟩
theorem mult_walk (K : SpecK) (s : Sp) (a b : Int) (w : World) (ok : s.ok) : Calls Try.prog 7 #[.agg s.cells, .int .i64 a, .int .i64 b] w fun e w' => e = .returned (.bool true) ∧ Below w.heap.size w w' := by
  by_cases h : a < 1 ∨ 10000000 < a ∨ b < 1 ∨ 10000000 < b
  · exact mult_out K s a b w ok h
  · exact mult_in K s a b w ok (by omega) (by omega) (by omega) (by omega)
end Go.Proofs.Ytlnakhbcefmiaaa
