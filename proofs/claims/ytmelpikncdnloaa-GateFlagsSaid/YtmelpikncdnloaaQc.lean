/- A contract of the document's plain answer: a price. -/
import Derived.Test.YtmelpikncdnloaaQm
import Derived.Test.YtmelpikncdnloaaQp
import Derived.Deep.RegionHeld3
namespace Go.Proofs.Ytmelpikncdnloaa
open Go.RowKit

theorem may_price {s : Sp} (h : mayB s = true) (n : Int) : priceB s n = prB s.ti n := by unfold priceB; rw [h]; rfl
theorem not_price {s : Sp} (h : mayB s = false) (n : Int) : priceB s n = false := by unfold priceB; rw [h]; rfl
set_option maxRecDepth 100000 in
theorem risprice_any (s : Sp) (n : Int) (w : World) (ok : s.ok) : Calls Try.prog 16 #[.agg s.cells, .int .i64 n] w fun e w' => e = .returned (.bool (priceB s n)) ∧ Below w.heap.size w w' := by
  have MY := Lib.hid (fun W => rmay_any s W ok)
  have HB := Lib.hid (box_new w ok.len)
  have B := Lib.hid ((Below.refl w.heap.size w).alloc (Nat.le_refl _) (.cells s.cells 25))
  cases hm : mayB s
  · have E := Lib.hid (not_price hm n)
    rw [hm] at MY
    clear hm ok
    go_enter Try.func16, Try.ntmps16
    go_wp2_with (refine wpl_load_sp (by rfl) (.tmp 2) rfl w.heap.size rfl HB.out ?_)
    refine (MY.out _).mono ?_; rintro e w1 ⟨rfl, q⟩
    have B1 := Lib.hid (B.out.trans (q.mono B.out.size))
    clear q
    go_wp2_with fail
    go_ret
    refine ⟨?_, B1.out⟩
    rw [E.out]
    rfl
  · have E := Lib.hid (may_price hm n)
    have TI := Lib.hid (head_parts (may_head hm)).2.2.1
    have PR := Lib.hid (fun W => rprice_any s.ti n W TI.out)
    have C2 := Lib.hid s.c2
    rw [hm] at MY
    clear hm ok
    go_enter Try.func16, Try.ntmps16
    go_wp2_with (refine wpl_load_sp (by rfl) (.tmp 2) rfl w.heap.size rfl HB.out ?_)
    refine (MY.out _).mono ?_; rintro e w1 ⟨rfl, q⟩
    have B1 := Lib.hid (B.out.trans (q.mono B.out.size))
    have hc := (HB.out.below q).cell 2
    rw [C2.out] at hc
    clear q
    go_wp2_with fail
    refine (PR.out _).mono ?_; rintro e w2 ⟨rfl, rfl⟩
    go_wp2_with fail
    go_ret
    refine ⟨?_, B1.out⟩
    rw [E.out]
    rfl
end Go.Proofs.Ytmelpikncdnloaa
