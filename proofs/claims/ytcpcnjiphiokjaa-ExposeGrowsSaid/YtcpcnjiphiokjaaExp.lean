/- The program's IsPrice of a contract's data (out of XVs), beside XTv. -/
import Derived.Test.YtcpcnjiphiokjaaTv
import Derived.Test.YtcpcnjiphiokjaaQc
namespace Go.Proofs.Ytcpcnjiphiokjaa
open Go.RowKit

set_option maxRecDepth 100000 in
theorem pisprice_any (s : Sp) (n : Int) (w : World) (ok : s.ok) : Calls Try.prog 34 #[.agg s.cells, .int .i64 n] w fun e w' => e = .returned (.bool (priceB s n)) ∧ Below w.heap.size w w' := by
  have MY := Lib.hid (fun W => pmay_any s W ok)
  have HB := Lib.hid (box_new w ok.len)
  have B := Lib.hid ((Below.refl w.heap.size w).alloc (Nat.le_refl _) (.cells s.cells 28))
  cases hm : mayB s
  · have E := Lib.hid (not_price hm n)
    rw [hm] at MY
    clear hm ok
    go_enter Try.func34, Try.ntmps34
    go_wp2_with ((with_reducible refine wl_load_sp w.heap.size HB.out ?_ ?_ ?_); rfl; rfl)
    refine (MY.out _).mono ?_; rintro e w1 ⟨rfl, q⟩
    have B1 := Lib.hid (B.out.trans (q.mono B.out.size))
    clear q
    go_wp2_with fail
    go_ret
    refine ⟨?_, B1.out⟩
    rw [E.out]
    rfl
  · have E := Lib.hid (may_price hm n)
    have TI := Lib.hid (head_parts (may_head hm)).2.2.1
    have PR := Lib.hid (fun W => psteps_any n s.ti 10000000 W TI.out)
    have C2 := Lib.hid s.c2
    rw [hm] at MY
    clear hm ok
    go_enter Try.func34, Try.ntmps34
    go_wp2_with ((with_reducible refine wl_load_sp w.heap.size HB.out ?_ ?_ ?_); rfl; rfl)
    refine (MY.out _).mono ?_; rintro e w1 ⟨rfl, q⟩
    have B1 := Lib.hid (B.out.trans (q.mono B.out.size))
    have hc := (HB.out.below q).cell 2
    rw [C2.out] at hc
    clear q
    go_wp2_with fail
    refine (PR.out _).mono ?_; rintro e w2 ⟨rfl, rfl⟩
    go_wp2_with fail
    go_ret
    refine ⟨?_, B1.out⟩
    rw [E.out]
    rfl
end Go.Proofs.Ytcpcnjiphiokjaa
