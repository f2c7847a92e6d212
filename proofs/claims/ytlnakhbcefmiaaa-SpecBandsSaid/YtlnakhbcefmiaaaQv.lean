/- The walk of the statement SpecBands, given the program's own calls. -/
import Derived.Test.YtlnakhbcefmiaaaQl
namespace Go.Proofs.Ytlnakhbcefmiaaa
open Go.RowKit

def wideSp (s : Sp) : Sp := { s with ba := 10000000 }
theorem wide_ok {s : Sp} (h : s.ok) : (wideSp s).ok := ⟨h.nu, h.ro, h.ti, h.lo, ⟨by show (-9223372036854775808 : Int) ≤ 10000000; decide, by show (10000000 : Int) ≤ 9223372036854775807; decide⟩, h.li, h.len, h.sh, h.cr, h.la, h.fi⟩
theorem wide_may {s : Sp} (h : mayB s = true) : mayB (wideSp s) = true := by
  unfold mayB headB at h ⊢
  simp only [Bool.and_eq_true] at h ⊢
  obtain ⟨⟨⟨⟨⟨⟨⟨⟨⟨⟨a, b⟩, c⟩, d⟩, _⟩, f⟩, g⟩, i⟩, j⟩, k⟩, l⟩ := h
  exact ⟨⟨⟨⟨⟨⟨⟨⟨⟨⟨a, b⟩, c⟩, d⟩, amB_iff.2 ⟨by show (0 : Int) ≤ 10000000; decide, by show (10000000 : Int) ≤ 10000000; decide⟩⟩, f⟩, g⟩, i⟩, j⟩, k⟩, l⟩
theorem wide_cells (s : Sp) : s.cells.setIfInBounds 4 (.int .i64 10000000) = (wideSp s).cells := by
  simp [Sp.cells, Sp.cellL, wideSp]
theorem band_self {s : Sp} (h : mayB s = true) (a : Int) : bandB s a a = true := by
  have := (head_parts (may_head h)).2.2.2.2.1
  rw [may_band h, decide_eq_true (by omega)]
theorem band_wide {s : Sp} (h : mayB s = true) {a b : Int} (k : bandB s a b = true) : bandB (wideSp s) a b = true := by
  have := (head_parts (may_head h)).2.2.2.2.1
  rw [may_band h] at k
  have k2 := of_decide_eq_true k
  rw [may_band (wide_may h)]
  exact decide_eq_true (by show a - b ≤ 10000000 ∧ b - a ≤ 10000000; omega)

set_option maxRecDepth 100000 in
set_option maxHeartbeats 4000000 in
theorem bands_no (K : SpecK) (s : Sp) (a b : Int) (w : World) (ok : s.ok) (ha : I64 a) (hm : mayB s = false) : Calls Try.prog 6 #[.agg s.cells, .int .i64 a, .int .i64 b] w fun e w' => e = .returned (.bool true) ∧ Below w.heap.size w w' := by
  have K1 := Lib.hid (fun W => K.may s W ok)
  have K4 := Lib.hid (fun W => K.band s a a W ok ha ha)
  rw [not_band hm a a] at K4
  rw [hm] at K1
  have KN := Lib.hid (fun W => known_spec K W)
  have HB := Lib.hid (box_new w ok.len)
  have B := Lib.hid ((Below.refl w.heap.size w).alloc (Nat.le_refl _) (.cells s.cells 25))
  clear K ok ha hm
  go_enter Try.func6, Try.ntmps6
  go_wp2_with ((with_reducible refine wl_load_sp w.heap.size HB.out ?_ ?_ ?_); rfl; rfl)
  refine (K1.out _).mono ?_; rintro e w1 ⟨rfl, q⟩
  have B1 := Lib.hid (B.out.trans (q.mono B.out.size))
  have HB1 := Lib.hid (HB.out.below q)
  clear q
  go_wp2_with ((with_reducible refine wl_load_sp w.heap.size HB1.out ?_ ?_ ?_); rfl; rfl)
  refine (K4.out _).mono ?_; rintro e w2 ⟨rfl, q⟩
  have B2 := Lib.hid (B1.out.trans (q.mono B1.out.size))
  clear q
  go_wp2_with fail
  refine (KN.out _).mono ?_; rintro e w3 ⟨rfl, q⟩
  have B3 := Lib.hid (B2.out.trans (q.mono B2.out.size))
  clear q
  go_wp2_with fail
  go_ret
  exact ⟨rfl, B3.out⟩
set_option maxRecDepth 100000 in
set_option maxHeartbeats 8000000 in
theorem bands_yes (K : SpecK) (s : Sp) (a b : Int) (w : World) (ok : s.ok) (ha : I64 a) (hb : I64 b) (hm : mayB s = true) : Calls Try.prog 6 #[.agg s.cells, .int .i64 a, .int .i64 b] w fun e w' => e = .returned (.bool true) ∧ Below w.heap.size w w' := by
  have K1 := Lib.hid (fun W => K.may s W ok)
  have K4 := Lib.hid (fun W => K.band s a a W ok ha ha)
  have K5 := Lib.hid (fun W => K.band s a b W ok ha hb)
  have K6 := Lib.hid (fun W => K.band s b a W ok hb ha)
  have K7 := Lib.hid (fun W => K.band (wideSp s) a b W (wide_ok ok) ha hb)
  rw [band_self hm a] at K4
  rw [hm] at K1
  rw [band_comm s b a] at K6
  have WD := Lib.hid (fun k => band_wide (a := a) (b := b) hm k)
  have WC := Lib.hid (wide_cells s)
  have KN := Lib.hid (fun W => known_spec K W)
  have HB := Lib.hid (box_new w ok.len)
  have B := Lib.hid ((Below.refl w.heap.size w).alloc (Nat.le_refl _) (.cells s.cells 25))
  have HLN := Lib.hid ok.len
  have C4 := Lib.hid s.c4
  have Z := zero_sp
  clear K ok ha hb hm
  go_enter Try.func6, Try.ntmps6
  go_wp2_with ((with_reducible refine wl_load_sp w.heap.size HB.out ?_ ?_ ?_); rfl; rfl)
  refine (K1.out _).mono ?_; rintro e w1 ⟨rfl, q⟩
  have B1 := Lib.hid (B.out.trans (q.mono B.out.size))
  have HB1 := Lib.hid (HB.out.below q)
  have hsz : w.heap.size < w1.heap.size := by
    have := q.size
    have h2 : (w.alloc (.cells s.cells 25)).heap.size = w.heap.size + 1 := by simp
    omega
  have HZ := Lib.hid (box_new w1 (s := zeroSp) rfl)
  have HW := Lib.hid (box_set HZ.out (s := s) HLN.out)
  have HS : Hid (Box ((w1.alloc (.cells zeroSp.cells 25)).setRow w1.heap.size s.cells) w.heap.size s) := Lib.hid ⟨(setRow_other _ w1.heap.size w.heap.size _ (by omega)).trans ((heap_alloc_old w1 _ hsz).trans HB1.out.1), HLN.out⟩
  have B2 := Lib.hid (below_row' (g := w1.heap.size) (cs := s.cells) (B1.out.alloc B1.out.size (.cells zeroSp.cells 25)) B1.out.size)
  obtain ⟨W2, hW2⟩ : ∃ W, ((w1.alloc (.cells zeroSp.cells 25)).setRow w1.heap.size s.cells) = W := ⟨_, rfl⟩
  obtain ⟨g7, hg7⟩ : ∃ g, w1.heap.size = g := ⟨_, rfl⟩
  have HW2 := Lib.hid hW2
  have HG := Lib.hid hg7
  rw [hW2] at HW HS B2
  rw [hg7] at HW hsz
  have hw7 : w.heap.size ≤ g7 := by omega
  have hne : w.heap.size ≠ g7 := by omega
  have c4 := HW.out.cell 4
  rw [C4.out] at c4
  have f4 := HW.out.free 4
  have HW3 := Lib.hid (box_cell HW.out (t := wideSp s) HLN.out WC.out)
  have HS3 : Hid (Box (W2.setCell ⟨g7, 4, none⟩ (.int .i64 10000000)) w.heap.size s) := Lib.hid ⟨(heap_setCell_other _ _ _ _ hne).trans HS.out.1, HLN.out⟩
  have B3 : Hid (Below w.heap.size w (W2.setCell ⟨g7, 4, none⟩ (.int .i64 10000000))) := Lib.hid (B2.out.setCell hw7 _)
  clear q hW2 hg7 hsz hne hw7
  go_wp2_with (first
    | ((with_reducible refine wl_load_sp w.heap.size HB1.out ?_ ?_ ?_); rfl; rfl)
    | ((with_reducible refine wl_store_sp s w1.heap.size HZ.out HLN.out ?_ ?_ ?_); rfl; rfl; rw [HW2.out, HG.out])
    | ((with_reducible refine wl_load_sp w.heap.size HS3.out ?_ ?_ ?_); rfl; rfl))
  obtain ⟨p, hp⟩ : ∃ p, bandB s a b = p := ⟨_, rfl⟩
  rw [hp] at K5 K6 WD
  refine (K5.out _).mono ?_; rintro e w4 ⟨rfl, q⟩
  have B4 := Lib.hid (B3.out.trans (q.mono B3.out.size))
  have HB4 := Lib.hid (HS3.out.below q)
  have HW4 := Lib.hid (HW3.out.below q)
  clear q hp c4 f4 Z
  go_wp2_with ((with_reducible refine wl_load_sp w.heap.size HB4.out ?_ ?_ ?_); rfl; rfl)
  refine (K4.out _).mono ?_; rintro e w5 ⟨rfl, q⟩
  have B5 := Lib.hid (B4.out.trans (q.mono B4.out.size))
  have HB5 := Lib.hid (HB4.out.below q)
  have HW5 := Lib.hid (HW4.out.below q)
  clear q
  go_wp2_with ((with_reducible refine wl_load_sp w.heap.size HB5.out ?_ ?_ ?_); rfl; rfl)
  refine (K6.out _).mono ?_; rintro e w6 ⟨rfl, q⟩
  have B6 := Lib.hid (B5.out.trans (q.mono B5.out.size))
  have HW6 := Lib.hid (HW5.out.below q)
  clear q
  cases p
  · go_wp2_with fail
    refine (KN.out _).mono ?_; rintro e w7 ⟨rfl, q⟩
    have B7 := Lib.hid (B6.out.trans (q.mono B6.out.size))
    clear q
    go_wp2_with fail
    go_ret
    exact ⟨rfl, B7.out⟩
  · have K8 := K7
    rw [WD.out rfl] at K8
    go_wp2_with ((with_reducible refine wl_load_sp g7 HW6.out ?_ ?_ ?_); rfl; rfl)
    refine (K8.out _).mono ?_; rintro e w7 ⟨rfl, q⟩
    have B7 := Lib.hid (B6.out.trans (q.mono B6.out.size))
    clear q
    go_wp2_with fail
    refine (KN.out _).mono ?_; rintro e w8 ⟨rfl, q⟩
    have B8 := Lib.hid (B7.out.trans (q.mono B7.out.size))
    clear q
    go_wp2_with fail
    go_ret
    exact ⟨rfl, B8.out⟩
theorem bands_walk (K : SpecK) (s : Sp) (a b : Int) (w : World) (ok : s.ok) (ha : I64 a) (hb : I64 b) : Calls Try.prog 6 #[.agg s.cells, .int .i64 a, .int .i64 b] w fun e w' => e = .returned (.bool true) ∧ Below w.heap.size w w' := by
  cases hm : mayB s
  · exact bands_no K s a b w ok ha hm
  · exact bands_yes K s a b w ok ha hb hm
end Go.Proofs.Ytlnakhbcefmiaaa
