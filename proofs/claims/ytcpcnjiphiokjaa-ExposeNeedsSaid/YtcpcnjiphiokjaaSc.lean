/- Contracts of the document's plain side: May, Better. -/
import Derived.Test.YtcpcnjiphiokjaaSb
namespace Go.Proofs.Ytcpcnjiphiokjaa
open Go.RowKit
set_option linter.unusedVariables false

theorem obx (w : World) (o : Or) : EO.Bx 41 (w.alloc (.cells (EO.cells o).toArray 41)) w.heap.size o := gbx_new w o
set_option maxRecDepth 100000 in
set_option maxHeartbeats 1000000 in
theorem rmay_o (o : Or) (w : World) (ok : o.ok) : Calls Try.prog 46 #[.agg (EO.cells o).toArray] w fun e w' => e = .returned (.bool (mayO o)) ∧ Below w.heap.size w w' := by
  have c0 := gbx_cell (obx w o) 0
  have c1 := gbx_cell (obx w o) 1
  have c3 := gbx_cell (obx w o) 3
  have c4 := gbx_cell (obx w o) 4
  have B := Lib.hid (below_new w (.cells (EO.cells o).toArray 41))
  have e0 : (EO.cells o)[0]? = some (.int .u64 o.nu) := rfl
  have e1 : (EO.cells o)[1]? = some (.int .u32 o.ac) := rfl
  have e3 : (EO.cells o)[3]? = some (.int .i64 o.pr) := rfl
  have e4 : (EO.cells o)[4]? = some (.int .i64 o.le) := rfl
  rw [e0] at c0; rw [e1] at c1; rw [e3] at c3; rw [e4] at c4
  clear e0 e1 e3 e4
  unfold mayO
  generalize o.nu = nu at *
  generalize o.ac = ac at *
  generalize o.pr = pr at *
  generalize o.le = le at *
  generalize EO.cells o = cc at *
  clear ok
  cases h1 : decide (0 < nu)
  case' true =>
    cases h2 : decide (0 < ac)
    case' true =>
      cases h3 : decide (0 < pr)
      case' true =>
        cases h4 : decide (pr ≤ 10000000)
        case' true =>
          cases h5 : decide (0 < le)
          case' true => cases h6 : decide (le ≤ 1000000)
  all_goals
    go_enter Try.func46, Try.ntmps46
    go_wp2_with fail
    go_ret
    exact ⟨rfl, B.out⟩
end Go.Proofs.Ytcpcnjiphiokjaa
