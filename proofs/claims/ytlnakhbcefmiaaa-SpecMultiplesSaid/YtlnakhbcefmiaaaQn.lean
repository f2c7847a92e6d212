/- Contract of the document's plain answer: within a band. -/
import Derived.Test.YtlnakhbcefmiaaaQi
namespace Go.Proofs.Ytlnakhbcefmiaaa
open Go.RowKit

theorem not_band {s : Sp} (h : mayB s = false) (a b : Int) : bandB s a b = false := by unfold bandB; rw [h]; rfl
theorem may_band {s : Sp} (h : mayB s = true) (a b : Int) : bandB s a b = decide (a - b ≤ s.ba ∧ b - a ≤ s.ba) := by unfold bandB; rw [h]; rfl
theorem band_comm (s : Sp) (a b : Int) : bandB s a b = bandB s b a := by
  unfold bandB
  congr 1
  exact decide_eq_decide.2 And.comm
/-- Of two numbers in their order. -/
theorem band_far {s : Sp} (h : mayB s = true) {a b : Int} (k : s.ba < b - a) : bandB s a b = false := by
  rw [may_band h, decide_eq_false (fun c => by omega)]
theorem band_near {s : Sp} (h : mayB s = true) {a b : Int} (hab : a ≤ b) : bandB s a b = decide (b - a ≤ s.ba) := by
  have := (head_parts (may_head h)).2.2.2.2.1
  rw [may_band h]
  by_cases c : b - a ≤ s.ba
  · rw [decide_eq_true c, decide_eq_true (by omega)]
  · rw [decide_eq_false c, decide_eq_false (by omega)]

set_option maxRecDepth 100000 in
theorem rband_no (s : Sp) (a b : Int) (w : World) (ok : s.ok) (hm : mayB s = false) : Calls Try.prog 15 #[.agg s.cells, .int .i64 a, .int .i64 b] w fun e w' => e = .returned (.bool false) ∧ Below w.heap.size w w' := by
  have MY := Lib.hid (fun W => rmay_any s W ok)
  have HB := Lib.hid (box_new w ok.len)
  have B := Lib.hid ((Below.refl w.heap.size w).alloc (Nat.le_refl _) (.cells s.cells 25))
  rw [hm] at MY
  clear hm ok
  go_enter Try.func15, Try.ntmps15
  go_wp2_with (refine wpl_load_sp (by rfl) (.tmp 3) rfl w.heap.size rfl HB.out ?_)
  refine (MY.out _).mono ?_; rintro e w1 ⟨rfl, q⟩
  have B1 := Lib.hid (B.out.trans (q.mono B.out.size))
  clear q
  go_wp2_with fail
  go_ret
  exact ⟨rfl, B1.out⟩
set_option maxRecDepth 100000 in
set_option maxHeartbeats 2000000 in
theorem rband_up (s : Sp) (a b : Int) (w : World) (ok : s.ok) (hm : mayB s = true) (ha : I64 a) (hb : I64 b) (hab : a ≤ b) : Calls Try.prog 15 #[.agg s.cells, .int .i64 a, .int .i64 b] w fun e w' => e = .returned (.bool (bandB s a b)) ∧ Below w.heap.size w w' := by
  have MY := Lib.hid (fun W => rmay_any s W ok)
  have HB := Lib.hid (box_new w ok.len)
  have B := Lib.hid ((Below.refl w.heap.size w).alloc (Nat.le_refl _) (.cells s.cells 25))
  have C4 := Lib.hid s.c4
  have NE := Lib.hid (band_near hm hab)
  have FA := Lib.hid (fun k => band_far (a := a) (b := b) hm k)
  obtain ⟨l1, l2⟩ := (head_parts (may_head hm)).2.2.2.2.1
  rw [hm] at MY
  obtain ⟨a1, a2⟩ := ha
  obtain ⟨b1, b2⟩ := hb
  obtain ⟨ba, hba⟩ : ∃ ba, s.ba = ba := ⟨_, rfl⟩
  rw [hba] at C4 NE FA l1 l2
  have h0 : decide (b < a) = false := decide_eq_false (by omega)
  clear hm ok hba
  by_cases c1 : a < 0 ∧ 0 ≤ b
  · obtain ⟨n1, n2⟩ := c1
    have d1 : decide (a < 0) = true := decide_eq_true n1
    have d2 : decide (0 ≤ b) = true := decide_eq_true n2
    by_cases k1 : b ≤ ba
    · by_cases k2 : -ba ≤ a
      · have d3 : decide (b ≤ ba) = true := decide_eq_true k1
        have d4 : decide (-ba ≤ a) = true := decide_eq_true k2
        go_enter Try.func15, Try.ntmps15
        go_wp2_with (refine wpl_load_sp (by rfl) (.tmp 3) rfl w.heap.size rfl HB.out ?_)
        refine (MY.out _).mono ?_; rintro e w1 ⟨rfl, q⟩
        have B1 := Lib.hid (B.out.trans (q.mono B.out.size))
        have hc := (HB.out.below q).cell 4
        rw [C4.out] at hc
        clear q
        go_wp2_with fail
        go_ret
        refine ⟨?_, B1.out⟩
        rw [NE.out]
        rfl
      · have d3 : decide (b ≤ ba) = true := decide_eq_true k1
        have d4 : decide (-ba ≤ a) = false := decide_eq_false k2
        have E := Lib.hid (FA.out (by omega))
        go_enter Try.func15, Try.ntmps15
        go_wp2_with (refine wpl_load_sp (by rfl) (.tmp 3) rfl w.heap.size rfl HB.out ?_)
        refine (MY.out _).mono ?_; rintro e w1 ⟨rfl, q⟩
        have B1 := Lib.hid (B.out.trans (q.mono B.out.size))
        have hc := (HB.out.below q).cell 4
        rw [C4.out] at hc
        clear q
        go_wp2_with fail
        go_ret
        refine ⟨?_, B1.out⟩
        rw [E.out]
        rfl
    · have d3 : decide (b ≤ ba) = false := decide_eq_false k1
      have E := Lib.hid (FA.out (by omega))
      go_enter Try.func15, Try.ntmps15
      go_wp2_with (refine wpl_load_sp (by rfl) (.tmp 3) rfl w.heap.size rfl HB.out ?_)
      refine (MY.out _).mono ?_; rintro e w1 ⟨rfl, q⟩
      have B1 := Lib.hid (B.out.trans (q.mono B.out.size))
      have hc := (HB.out.below q).cell 4
      rw [C4.out] at hc
      clear q
      go_wp2_with fail
      go_ret
      refine ⟨?_, B1.out⟩
      rw [E.out]
      rfl
  · have hs1 : -9223372036854775808 ≤ b - a := by omega
    have hs2 : b - a ≤ 9223372036854775807 := by omega
    by_cases n1 : a < 0
    · have d1 : decide (a < 0) = true := decide_eq_true n1
      have d2 : decide (0 ≤ b) = false := decide_eq_false (by omega)
      clear c1
      go_enter Try.func15, Try.ntmps15
      go_wp2_with (refine wpl_load_sp (by rfl) (.tmp 3) rfl w.heap.size rfl HB.out ?_)
      refine (MY.out _).mono ?_; rintro e w1 ⟨rfl, q⟩
      have B1 := Lib.hid (B.out.trans (q.mono B.out.size))
      have hc := (HB.out.below q).cell 4
      rw [C4.out] at hc
      clear q
      go_wp2_with fail
      go_ret
      refine ⟨?_, B1.out⟩
      rw [NE.out]
      rfl
    · have d1 : decide (a < 0) = false := decide_eq_false n1
      clear c1
      go_enter Try.func15, Try.ntmps15
      go_wp2_with (refine wpl_load_sp (by rfl) (.tmp 3) rfl w.heap.size rfl HB.out ?_)
      refine (MY.out _).mono ?_; rintro e w1 ⟨rfl, q⟩
      have B1 := Lib.hid (B.out.trans (q.mono B.out.size))
      have hc := (HB.out.below q).cell 4
      rw [C4.out] at hc
      clear q
      go_wp2_with fail
      go_ret
      refine ⟨?_, B1.out⟩
      rw [NE.out]
      rfl
set_option maxRecDepth 100000 in
set_option maxHeartbeats 2000000 in
theorem rband_down (s : Sp) (a b : Int) (w : World) (ok : s.ok) (hm : mayB s = true) (ha : I64 a) (hb : I64 b) (hab : b < a) : Calls Try.prog 15 #[.agg s.cells, .int .i64 a, .int .i64 b] w fun e w' => e = .returned (.bool (bandB s a b)) ∧ Below w.heap.size w w' := by
  have MY := Lib.hid (fun W => rmay_any s W ok)
  have HB := Lib.hid (box_new w ok.len)
  have B := Lib.hid ((Below.refl w.heap.size w).alloc (Nat.le_refl _) (.cells s.cells 25))
  have C4 := Lib.hid s.c4
  have NE := Lib.hid ((band_comm s a b).trans (band_near hm (Int.le_of_lt hab)))
  have FA := Lib.hid (fun k => (band_comm s a b).trans (band_far (a := b) (b := a) hm k))
  obtain ⟨l1, l2⟩ := (head_parts (may_head hm)).2.2.2.2.1
  rw [hm] at MY
  obtain ⟨a1, a2⟩ := ha
  obtain ⟨b1, b2⟩ := hb
  obtain ⟨ba, hba⟩ : ∃ ba, s.ba = ba := ⟨_, rfl⟩
  rw [hba] at C4 NE FA l1 l2
  have h0 : decide (b < a) = true := decide_eq_true hab
  clear hm ok hba
  by_cases c1 : b < 0 ∧ 0 ≤ a
  · obtain ⟨n1, n2⟩ := c1
    have d1 : decide (b < 0) = true := decide_eq_true n1
    have d2 : decide (0 ≤ a) = true := decide_eq_true n2
    by_cases k1 : a ≤ ba
    · by_cases k2 : -ba ≤ b
      · have d3 : decide (a ≤ ba) = true := decide_eq_true k1
        have d4 : decide (-ba ≤ b) = true := decide_eq_true k2
        go_enter Try.func15, Try.ntmps15
        go_wp2_with (refine wpl_load_sp (by rfl) (.tmp 3) rfl w.heap.size rfl HB.out ?_)
        refine (MY.out _).mono ?_; rintro e w1 ⟨rfl, q⟩
        have B1 := Lib.hid (B.out.trans (q.mono B.out.size))
        have hc := (HB.out.below q).cell 4
        rw [C4.out] at hc
        clear q
        go_wp2_with fail
        go_ret
        refine ⟨?_, B1.out⟩
        rw [NE.out]
        rfl
      · have d3 : decide (a ≤ ba) = true := decide_eq_true k1
        have d4 : decide (-ba ≤ b) = false := decide_eq_false k2
        have E := Lib.hid (FA.out (by omega))
        go_enter Try.func15, Try.ntmps15
        go_wp2_with (refine wpl_load_sp (by rfl) (.tmp 3) rfl w.heap.size rfl HB.out ?_)
        refine (MY.out _).mono ?_; rintro e w1 ⟨rfl, q⟩
        have B1 := Lib.hid (B.out.trans (q.mono B.out.size))
        have hc := (HB.out.below q).cell 4
        rw [C4.out] at hc
        clear q
        go_wp2_with fail
        go_ret
        refine ⟨?_, B1.out⟩
        rw [E.out]
        rfl
    · have d3 : decide (a ≤ ba) = false := decide_eq_false k1
      have E := Lib.hid (FA.out (by omega))
      go_enter Try.func15, Try.ntmps15
      go_wp2_with (refine wpl_load_sp (by rfl) (.tmp 3) rfl w.heap.size rfl HB.out ?_)
      refine (MY.out _).mono ?_; rintro e w1 ⟨rfl, q⟩
      have B1 := Lib.hid (B.out.trans (q.mono B.out.size))
      have hc := (HB.out.below q).cell 4
      rw [C4.out] at hc
      clear q
      go_wp2_with fail
      go_ret
      refine ⟨?_, B1.out⟩
      rw [E.out]
      rfl
  · have hs1 : -9223372036854775808 ≤ a - b := by omega
    have hs2 : a - b ≤ 9223372036854775807 := by omega
    by_cases n1 : b < 0
    · have d1 : decide (b < 0) = true := decide_eq_true n1
      have d2 : decide (0 ≤ a) = false := decide_eq_false (by omega)
      clear c1
      go_enter Try.func15, Try.ntmps15
      go_wp2_with (refine wpl_load_sp (by rfl) (.tmp 3) rfl w.heap.size rfl HB.out ?_)
      refine (MY.out _).mono ?_; rintro e w1 ⟨rfl, q⟩
      have B1 := Lib.hid (B.out.trans (q.mono B.out.size))
      have hc := (HB.out.below q).cell 4
      rw [C4.out] at hc
      clear q
      go_wp2_with fail
      go_ret
      refine ⟨?_, B1.out⟩
      rw [NE.out]
      rfl
    · have d1 : decide (b < 0) = false := decide_eq_false n1
      clear c1
      go_enter Try.func15, Try.ntmps15
      go_wp2_with (refine wpl_load_sp (by rfl) (.tmp 3) rfl w.heap.size rfl HB.out ?_)
      refine (MY.out _).mono ?_; rintro e w1 ⟨rfl, q⟩
      have B1 := Lib.hid (B.out.trans (q.mono B.out.size))
      have hc := (HB.out.below q).cell 4
      rw [C4.out] at hc
      clear q
      go_wp2_with fail
      go_ret
      refine ⟨?_, B1.out⟩
      rw [NE.out]
      rfl
theorem rband_any (s : Sp) (a b : Int) (w : World) (ok : s.ok) (ha : I64 a) (hb : I64 b) : Calls Try.prog 15 #[.agg s.cells, .int .i64 a, .int .i64 b] w fun e w' => e = .returned (.bool (bandB s a b)) ∧ Below w.heap.size w w' := by
  cases hm : mayB s
  · rw [not_band hm]
    exact rband_no s a b w ok hm
  · by_cases hab : a ≤ b
    · exact rband_up s a b w ok hm ha hb hab
    · exact rband_down s a b w ok hm ha hb (by omega)
end Go.Proofs.Ytlnakhbcefmiaaa
