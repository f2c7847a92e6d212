/- The program's words: two replies compared; whether a reply may be (by genWfn.py). -/
import Derived.Test.YtbmlpokkojhhjaaGreatG29
import Derived.Test.YtbmlpokkojhhjaaGreatG03
namespace Go.Proofs.YtbmlpokkojhhjaaGreat.Wz
open Go.RowKit
set_option linter.unusedVariables false
set_option linter.unusedSimpArgs false

set_option maxRecDepth 100000 in
set_option maxHeartbeats 16000000 in
theorem same_0 (v u : Rv) (r s : Rw) (w : World) (vo : v.ok) (vi : v.In w r) (ro : r.ok) (uo : u.ok) (ui : u.In w s) (so : s.ok) (hn : v.er ≠ u.er) : Calls Tryz.prog 81 #[.agg (ERv.cells v).toArray, .agg (ERv.cells u).toArray] w fun e w' => e = .returned (.bool false) ∧ Below w.heap.size w w' := by
  obtain ⟨W1, W2, ha, hb, x1, x2, b2⟩ := two_box15 v u w
  obtain ⟨g1, hg1⟩ : ∃ g, w.heap.size = g := ⟨_, rfl⟩
  obtain ⟨g2, hg2⟩ : ∃ g, W1.heap.size = g := ⟨_, rfl⟩
  rw [hg1] at x1
  rw [hg2] at x2
  have Kv0 := Lib.hid fun (U : World) (b : Below W2.heap.size W2 U) => (show U.cell? ⟨g1, 0, none⟩ = some (.int .i64 v.er) from rv_c15 (gbx_below x1 b) rfl)
  have Ku0 := Lib.hid fun (U : World) (b : Below W2.heap.size W2 U) => (show U.cell? ⟨g2, 0, none⟩ = some (.int .i64 u.er) from rv_c15 (gbx_below x2 b) rfl)
  have Kv1 := Lib.hid fun (U : World) (b : Below W2.heap.size W2 U) => (show U.cell? ⟨g1, 1, none⟩ = some (.int .u64 v.nu) from rv_c15 (gbx_below x1 b) rfl)
  have Ku1 := Lib.hid fun (U : World) (b : Below W2.heap.size W2 U) => (show U.cell? ⟨g2, 1, none⟩ = some (.int .u64 u.nu) from rv_c15 (gbx_below x2 b) rfl)
  have Kv2 := Lib.hid fun (U : World) (b : Below W2.heap.size W2 U) => (show U.cell? ⟨g1, 2, none⟩ = some (.int .i64 v.fi) from rv_c15 (gbx_below x1 b) rfl)
  have Ku2 := Lib.hid fun (U : World) (b : Below W2.heap.size W2 U) => (show U.cell? ⟨g2, 2, none⟩ = some (.int .i64 u.fi) from rv_c15 (gbx_below x2 b) rfl)
  have Kv3 := Lib.hid fun (U : World) (b : Below W2.heap.size W2 U) => (show U.cell? ⟨g1, 3, none⟩ = some (.int .i64 v.le) from rv_c15 (gbx_below x1 b) rfl)
  have Ku3 := Lib.hid fun (U : World) (b : Below W2.heap.size W2 U) => (show U.cell? ⟨g2, 3, none⟩ = some (.int .i64 u.le) from rv_c15 (gbx_below x2 b) rfl)
  have Kv4 := Lib.hid fun (U : World) (b : Below W2.heap.size W2 U) => (show U.cell? ⟨g1, 4, none⟩ = some (.slice v.tA v.tl v.tc) from rv_c15 (gbx_below x1 b) rfl)
  have Ku4 := Lib.hid fun (U : World) (b : Below W2.heap.size W2 U) => (show U.cell? ⟨g2, 4, none⟩ = some (.slice u.tA u.tl u.tc) from rv_c15 (gbx_below x2 b) rfl)
  have Kv5 := Lib.hid fun (U : World) (b : Below W2.heap.size W2 U) => (show U.cell? ⟨g1, 5, none⟩ = some (.slice v.gA v.gl v.gc) from rv_c15 (gbx_below x1 b) rfl)
  have Ku5 := Lib.hid fun (U : World) (b : Below W2.heap.size W2 U) => (show U.cell? ⟨g2, 5, none⟩ = some (.slice u.gA u.gl u.gc) from rv_c15 (gbx_below x2 b) rfl)
  have Kv6 := Lib.hid fun (U : World) (b : Below W2.heap.size W2 U) => (show U.cell? ⟨g1, 6, none⟩ = some (.slice v.aA v.al v.ac) from rv_c15 (gbx_below x1 b) rfl)
  have Ku6 := Lib.hid fun (U : World) (b : Below W2.heap.size W2 U) => (show U.cell? ⟨g2, 6, none⟩ = some (.slice u.aA u.al u.ac) from rv_c15 (gbx_below x2 b) rfl)
  have d0 : decide (v.er = u.er) = false := decide_eq_false hn
  have e0 : (v.er == u.er) = false := by simpa using hn
  have B2 := Lib.hid b2
  have HW1 := Lib.hid ha
  have HW2 := Lib.hid hb
  have HG1 := Lib.hid hg1
  have HG2 := Lib.hid hg2
  have R0 : Hid (Below W2.heap.size W2 W2) := Lib.hid (Below.refl _ _)
  have kv0 := Kv0.out W2 R0.out
  have ku0 := Ku0.out W2 R0.out
  clear ha hb x1 x2 b2 hg1 hg2 vo uo ro so vi ui  hn
  go_enter Tryz.func81, Tryz.ntmps81
  go_wp2_with (first | (rw [HW1.out, HG1.out]) | (rw [HW2.out, HG2.out]))
  go_ret
  exact ⟨rfl, B2.out.trans (R0.out.mono B2.out.size)⟩
set_option maxRecDepth 100000 in
set_option maxHeartbeats 16000000 in
theorem same_1 (v u : Rv) (r s : Rw) (w : World) (vo : v.ok) (vi : v.In w r) (ro : r.ok) (uo : u.ok) (ui : u.In w s) (so : s.ok) (h0 : v.er = u.er) (hn : v.nu ≠ u.nu) : Calls Tryz.prog 81 #[.agg (ERv.cells v).toArray, .agg (ERv.cells u).toArray] w fun e w' => e = .returned (.bool false) ∧ Below w.heap.size w w' := by
  obtain ⟨W1, W2, ha, hb, x1, x2, b2⟩ := two_box15 v u w
  obtain ⟨g1, hg1⟩ : ∃ g, w.heap.size = g := ⟨_, rfl⟩
  obtain ⟨g2, hg2⟩ : ∃ g, W1.heap.size = g := ⟨_, rfl⟩
  rw [hg1] at x1
  rw [hg2] at x2
  have Kv0 := Lib.hid fun (U : World) (b : Below W2.heap.size W2 U) => (show U.cell? ⟨g1, 0, none⟩ = some (.int .i64 v.er) from rv_c15 (gbx_below x1 b) rfl)
  have Ku0 := Lib.hid fun (U : World) (b : Below W2.heap.size W2 U) => (show U.cell? ⟨g2, 0, none⟩ = some (.int .i64 u.er) from rv_c15 (gbx_below x2 b) rfl)
  have Kv1 := Lib.hid fun (U : World) (b : Below W2.heap.size W2 U) => (show U.cell? ⟨g1, 1, none⟩ = some (.int .u64 v.nu) from rv_c15 (gbx_below x1 b) rfl)
  have Ku1 := Lib.hid fun (U : World) (b : Below W2.heap.size W2 U) => (show U.cell? ⟨g2, 1, none⟩ = some (.int .u64 u.nu) from rv_c15 (gbx_below x2 b) rfl)
  have Kv2 := Lib.hid fun (U : World) (b : Below W2.heap.size W2 U) => (show U.cell? ⟨g1, 2, none⟩ = some (.int .i64 v.fi) from rv_c15 (gbx_below x1 b) rfl)
  have Ku2 := Lib.hid fun (U : World) (b : Below W2.heap.size W2 U) => (show U.cell? ⟨g2, 2, none⟩ = some (.int .i64 u.fi) from rv_c15 (gbx_below x2 b) rfl)
  have Kv3 := Lib.hid fun (U : World) (b : Below W2.heap.size W2 U) => (show U.cell? ⟨g1, 3, none⟩ = some (.int .i64 v.le) from rv_c15 (gbx_below x1 b) rfl)
  have Ku3 := Lib.hid fun (U : World) (b : Below W2.heap.size W2 U) => (show U.cell? ⟨g2, 3, none⟩ = some (.int .i64 u.le) from rv_c15 (gbx_below x2 b) rfl)
  have Kv4 := Lib.hid fun (U : World) (b : Below W2.heap.size W2 U) => (show U.cell? ⟨g1, 4, none⟩ = some (.slice v.tA v.tl v.tc) from rv_c15 (gbx_below x1 b) rfl)
  have Ku4 := Lib.hid fun (U : World) (b : Below W2.heap.size W2 U) => (show U.cell? ⟨g2, 4, none⟩ = some (.slice u.tA u.tl u.tc) from rv_c15 (gbx_below x2 b) rfl)
  have Kv5 := Lib.hid fun (U : World) (b : Below W2.heap.size W2 U) => (show U.cell? ⟨g1, 5, none⟩ = some (.slice v.gA v.gl v.gc) from rv_c15 (gbx_below x1 b) rfl)
  have Ku5 := Lib.hid fun (U : World) (b : Below W2.heap.size W2 U) => (show U.cell? ⟨g2, 5, none⟩ = some (.slice u.gA u.gl u.gc) from rv_c15 (gbx_below x2 b) rfl)
  have Kv6 := Lib.hid fun (U : World) (b : Below W2.heap.size W2 U) => (show U.cell? ⟨g1, 6, none⟩ = some (.slice v.aA v.al v.ac) from rv_c15 (gbx_below x1 b) rfl)
  have Ku6 := Lib.hid fun (U : World) (b : Below W2.heap.size W2 U) => (show U.cell? ⟨g2, 6, none⟩ = some (.slice u.aA u.al u.ac) from rv_c15 (gbx_below x2 b) rfl)
  have d0 : decide (v.er = u.er) = true := decide_eq_true h0
  have e0 : (v.er == u.er) = true := by simpa using h0
  have d1 : decide (v.nu = u.nu) = false := decide_eq_false hn
  have e1 : (v.nu == u.nu) = false := by simpa using hn
  have B2 := Lib.hid b2
  have HW1 := Lib.hid ha
  have HW2 := Lib.hid hb
  have HG1 := Lib.hid hg1
  have HG2 := Lib.hid hg2
  have R0 : Hid (Below W2.heap.size W2 W2) := Lib.hid (Below.refl _ _)
  have kv0 := Kv0.out W2 R0.out
  have ku0 := Ku0.out W2 R0.out
  have kv1 := Kv1.out W2 R0.out
  have ku1 := Ku1.out W2 R0.out
  clear ha hb x1 x2 b2 hg1 hg2 vo uo ro so vi ui h0 hn
  go_enter Tryz.func81, Tryz.ntmps81
  go_wp2_with (first | (rw [HW1.out, HG1.out]) | (rw [HW2.out, HG2.out]))
  go_ret
  exact ⟨rfl, B2.out.trans (R0.out.mono B2.out.size)⟩
set_option maxRecDepth 100000 in
set_option maxHeartbeats 16000000 in
theorem same_2 (v u : Rv) (r s : Rw) (w : World) (vo : v.ok) (vi : v.In w r) (ro : r.ok) (uo : u.ok) (ui : u.In w s) (so : s.ok) (h0 : v.er = u.er) (h1 : v.nu = u.nu) (hn : v.fi ≠ u.fi) : Calls Tryz.prog 81 #[.agg (ERv.cells v).toArray, .agg (ERv.cells u).toArray] w fun e w' => e = .returned (.bool false) ∧ Below w.heap.size w w' := by
  obtain ⟨W1, W2, ha, hb, x1, x2, b2⟩ := two_box15 v u w
  obtain ⟨g1, hg1⟩ : ∃ g, w.heap.size = g := ⟨_, rfl⟩
  obtain ⟨g2, hg2⟩ : ∃ g, W1.heap.size = g := ⟨_, rfl⟩
  rw [hg1] at x1
  rw [hg2] at x2
  have Kv0 := Lib.hid fun (U : World) (b : Below W2.heap.size W2 U) => (show U.cell? ⟨g1, 0, none⟩ = some (.int .i64 v.er) from rv_c15 (gbx_below x1 b) rfl)
  have Ku0 := Lib.hid fun (U : World) (b : Below W2.heap.size W2 U) => (show U.cell? ⟨g2, 0, none⟩ = some (.int .i64 u.er) from rv_c15 (gbx_below x2 b) rfl)
  have Kv1 := Lib.hid fun (U : World) (b : Below W2.heap.size W2 U) => (show U.cell? ⟨g1, 1, none⟩ = some (.int .u64 v.nu) from rv_c15 (gbx_below x1 b) rfl)
  have Ku1 := Lib.hid fun (U : World) (b : Below W2.heap.size W2 U) => (show U.cell? ⟨g2, 1, none⟩ = some (.int .u64 u.nu) from rv_c15 (gbx_below x2 b) rfl)
  have Kv2 := Lib.hid fun (U : World) (b : Below W2.heap.size W2 U) => (show U.cell? ⟨g1, 2, none⟩ = some (.int .i64 v.fi) from rv_c15 (gbx_below x1 b) rfl)
  have Ku2 := Lib.hid fun (U : World) (b : Below W2.heap.size W2 U) => (show U.cell? ⟨g2, 2, none⟩ = some (.int .i64 u.fi) from rv_c15 (gbx_below x2 b) rfl)
  have Kv3 := Lib.hid fun (U : World) (b : Below W2.heap.size W2 U) => (show U.cell? ⟨g1, 3, none⟩ = some (.int .i64 v.le) from rv_c15 (gbx_below x1 b) rfl)
  have Ku3 := Lib.hid fun (U : World) (b : Below W2.heap.size W2 U) => (show U.cell? ⟨g2, 3, none⟩ = some (.int .i64 u.le) from rv_c15 (gbx_below x2 b) rfl)
  have Kv4 := Lib.hid fun (U : World) (b : Below W2.heap.size W2 U) => (show U.cell? ⟨g1, 4, none⟩ = some (.slice v.tA v.tl v.tc) from rv_c15 (gbx_below x1 b) rfl)
  have Ku4 := Lib.hid fun (U : World) (b : Below W2.heap.size W2 U) => (show U.cell? ⟨g2, 4, none⟩ = some (.slice u.tA u.tl u.tc) from rv_c15 (gbx_below x2 b) rfl)
  have Kv5 := Lib.hid fun (U : World) (b : Below W2.heap.size W2 U) => (show U.cell? ⟨g1, 5, none⟩ = some (.slice v.gA v.gl v.gc) from rv_c15 (gbx_below x1 b) rfl)
  have Ku5 := Lib.hid fun (U : World) (b : Below W2.heap.size W2 U) => (show U.cell? ⟨g2, 5, none⟩ = some (.slice u.gA u.gl u.gc) from rv_c15 (gbx_below x2 b) rfl)
  have Kv6 := Lib.hid fun (U : World) (b : Below W2.heap.size W2 U) => (show U.cell? ⟨g1, 6, none⟩ = some (.slice v.aA v.al v.ac) from rv_c15 (gbx_below x1 b) rfl)
  have Ku6 := Lib.hid fun (U : World) (b : Below W2.heap.size W2 U) => (show U.cell? ⟨g2, 6, none⟩ = some (.slice u.aA u.al u.ac) from rv_c15 (gbx_below x2 b) rfl)
  have d0 : decide (v.er = u.er) = true := decide_eq_true h0
  have e0 : (v.er == u.er) = true := by simpa using h0
  have d1 : decide (v.nu = u.nu) = true := decide_eq_true h1
  have e1 : (v.nu == u.nu) = true := by simpa using h1
  have d2 : decide (v.fi = u.fi) = false := decide_eq_false hn
  have e2 : (v.fi == u.fi) = false := by simpa using hn
  have B2 := Lib.hid b2
  have HW1 := Lib.hid ha
  have HW2 := Lib.hid hb
  have HG1 := Lib.hid hg1
  have HG2 := Lib.hid hg2
  have R0 : Hid (Below W2.heap.size W2 W2) := Lib.hid (Below.refl _ _)
  have kv0 := Kv0.out W2 R0.out
  have ku0 := Ku0.out W2 R0.out
  have kv1 := Kv1.out W2 R0.out
  have ku1 := Ku1.out W2 R0.out
  have kv2 := Kv2.out W2 R0.out
  have ku2 := Ku2.out W2 R0.out
  clear ha hb x1 x2 b2 hg1 hg2 vo uo ro so vi ui h0 h1 hn
  go_enter Tryz.func81, Tryz.ntmps81
  go_wp2_with (first | (rw [HW1.out, HG1.out]) | (rw [HW2.out, HG2.out]))
  go_ret
  exact ⟨rfl, B2.out.trans (R0.out.mono B2.out.size)⟩
set_option maxRecDepth 100000 in
set_option maxHeartbeats 16000000 in
theorem same_3 (v u : Rv) (r s : Rw) (w : World) (vo : v.ok) (vi : v.In w r) (ro : r.ok) (uo : u.ok) (ui : u.In w s) (so : s.ok) (h0 : v.er = u.er) (h1 : v.nu = u.nu) (h2 : v.fi = u.fi) (hn : v.le ≠ u.le) : Calls Tryz.prog 81 #[.agg (ERv.cells v).toArray, .agg (ERv.cells u).toArray] w fun e w' => e = .returned (.bool false) ∧ Below w.heap.size w w' := by
  obtain ⟨W1, W2, ha, hb, x1, x2, b2⟩ := two_box15 v u w
  obtain ⟨g1, hg1⟩ : ∃ g, w.heap.size = g := ⟨_, rfl⟩
  obtain ⟨g2, hg2⟩ : ∃ g, W1.heap.size = g := ⟨_, rfl⟩
  rw [hg1] at x1
  rw [hg2] at x2
  have Kv0 := Lib.hid fun (U : World) (b : Below W2.heap.size W2 U) => (show U.cell? ⟨g1, 0, none⟩ = some (.int .i64 v.er) from rv_c15 (gbx_below x1 b) rfl)
  have Ku0 := Lib.hid fun (U : World) (b : Below W2.heap.size W2 U) => (show U.cell? ⟨g2, 0, none⟩ = some (.int .i64 u.er) from rv_c15 (gbx_below x2 b) rfl)
  have Kv1 := Lib.hid fun (U : World) (b : Below W2.heap.size W2 U) => (show U.cell? ⟨g1, 1, none⟩ = some (.int .u64 v.nu) from rv_c15 (gbx_below x1 b) rfl)
  have Ku1 := Lib.hid fun (U : World) (b : Below W2.heap.size W2 U) => (show U.cell? ⟨g2, 1, none⟩ = some (.int .u64 u.nu) from rv_c15 (gbx_below x2 b) rfl)
  have Kv2 := Lib.hid fun (U : World) (b : Below W2.heap.size W2 U) => (show U.cell? ⟨g1, 2, none⟩ = some (.int .i64 v.fi) from rv_c15 (gbx_below x1 b) rfl)
  have Ku2 := Lib.hid fun (U : World) (b : Below W2.heap.size W2 U) => (show U.cell? ⟨g2, 2, none⟩ = some (.int .i64 u.fi) from rv_c15 (gbx_below x2 b) rfl)
  have Kv3 := Lib.hid fun (U : World) (b : Below W2.heap.size W2 U) => (show U.cell? ⟨g1, 3, none⟩ = some (.int .i64 v.le) from rv_c15 (gbx_below x1 b) rfl)
  have Ku3 := Lib.hid fun (U : World) (b : Below W2.heap.size W2 U) => (show U.cell? ⟨g2, 3, none⟩ = some (.int .i64 u.le) from rv_c15 (gbx_below x2 b) rfl)
  have Kv4 := Lib.hid fun (U : World) (b : Below W2.heap.size W2 U) => (show U.cell? ⟨g1, 4, none⟩ = some (.slice v.tA v.tl v.tc) from rv_c15 (gbx_below x1 b) rfl)
  have Ku4 := Lib.hid fun (U : World) (b : Below W2.heap.size W2 U) => (show U.cell? ⟨g2, 4, none⟩ = some (.slice u.tA u.tl u.tc) from rv_c15 (gbx_below x2 b) rfl)
  have Kv5 := Lib.hid fun (U : World) (b : Below W2.heap.size W2 U) => (show U.cell? ⟨g1, 5, none⟩ = some (.slice v.gA v.gl v.gc) from rv_c15 (gbx_below x1 b) rfl)
  have Ku5 := Lib.hid fun (U : World) (b : Below W2.heap.size W2 U) => (show U.cell? ⟨g2, 5, none⟩ = some (.slice u.gA u.gl u.gc) from rv_c15 (gbx_below x2 b) rfl)
  have Kv6 := Lib.hid fun (U : World) (b : Below W2.heap.size W2 U) => (show U.cell? ⟨g1, 6, none⟩ = some (.slice v.aA v.al v.ac) from rv_c15 (gbx_below x1 b) rfl)
  have Ku6 := Lib.hid fun (U : World) (b : Below W2.heap.size W2 U) => (show U.cell? ⟨g2, 6, none⟩ = some (.slice u.aA u.al u.ac) from rv_c15 (gbx_below x2 b) rfl)
  have d0 : decide (v.er = u.er) = true := decide_eq_true h0
  have e0 : (v.er == u.er) = true := by simpa using h0
  have d1 : decide (v.nu = u.nu) = true := decide_eq_true h1
  have e1 : (v.nu == u.nu) = true := by simpa using h1
  have d2 : decide (v.fi = u.fi) = true := decide_eq_true h2
  have e2 : (v.fi == u.fi) = true := by simpa using h2
  have d3 : decide (v.le = u.le) = false := decide_eq_false hn
  have e3 : (v.le == u.le) = false := by simpa using hn
  have B2 := Lib.hid b2
  have HW1 := Lib.hid ha
  have HW2 := Lib.hid hb
  have HG1 := Lib.hid hg1
  have HG2 := Lib.hid hg2
  have R0 : Hid (Below W2.heap.size W2 W2) := Lib.hid (Below.refl _ _)
  have kv0 := Kv0.out W2 R0.out
  have ku0 := Ku0.out W2 R0.out
  have kv1 := Kv1.out W2 R0.out
  have ku1 := Ku1.out W2 R0.out
  have kv2 := Kv2.out W2 R0.out
  have ku2 := Ku2.out W2 R0.out
  have kv3 := Kv3.out W2 R0.out
  have ku3 := Ku3.out W2 R0.out
  clear ha hb x1 x2 b2 hg1 hg2 vo uo ro so vi ui h0 h1 h2 hn
  go_enter Tryz.func81, Tryz.ntmps81
  go_wp2_with (first | (rw [HW1.out, HG1.out]) | (rw [HW2.out, HG2.out]))
  go_ret
  exact ⟨rfl, B2.out.trans (R0.out.mono B2.out.size)⟩
set_option maxRecDepth 100000 in
set_option maxHeartbeats 16000000 in
theorem same_4 (v u : Rv) (r s : Rw) (w : World) (vo : v.ok) (vi : v.In w r) (ro : r.ok) (uo : u.ok) (ui : u.In w s) (so : s.ok) (h0 : v.er = u.er) (h1 : v.nu = u.nu) (h2 : v.fi = u.fi) (h3 : v.le = u.le) (hn : r.tr ≠ s.tr) : Calls Tryz.prog 81 #[.agg (ERv.cells v).toArray, .agg (ERv.cells u).toArray] w fun e w' => e = .returned (.bool false) ∧ Below w.heap.size w w' := by
  obtain ⟨W1, W2, ha, hb, x1, x2, b2⟩ := two_box15 v u w
  obtain ⟨g1, hg1⟩ : ∃ g, w.heap.size = g := ⟨_, rfl⟩
  obtain ⟨g2, hg2⟩ : ∃ g, W1.heap.size = g := ⟨_, rfl⟩
  rw [hg1] at x1
  rw [hg2] at x2
  have Kv0 := Lib.hid fun (U : World) (b : Below W2.heap.size W2 U) => (show U.cell? ⟨g1, 0, none⟩ = some (.int .i64 v.er) from rv_c15 (gbx_below x1 b) rfl)
  have Ku0 := Lib.hid fun (U : World) (b : Below W2.heap.size W2 U) => (show U.cell? ⟨g2, 0, none⟩ = some (.int .i64 u.er) from rv_c15 (gbx_below x2 b) rfl)
  have Kv1 := Lib.hid fun (U : World) (b : Below W2.heap.size W2 U) => (show U.cell? ⟨g1, 1, none⟩ = some (.int .u64 v.nu) from rv_c15 (gbx_below x1 b) rfl)
  have Ku1 := Lib.hid fun (U : World) (b : Below W2.heap.size W2 U) => (show U.cell? ⟨g2, 1, none⟩ = some (.int .u64 u.nu) from rv_c15 (gbx_below x2 b) rfl)
  have Kv2 := Lib.hid fun (U : World) (b : Below W2.heap.size W2 U) => (show U.cell? ⟨g1, 2, none⟩ = some (.int .i64 v.fi) from rv_c15 (gbx_below x1 b) rfl)
  have Ku2 := Lib.hid fun (U : World) (b : Below W2.heap.size W2 U) => (show U.cell? ⟨g2, 2, none⟩ = some (.int .i64 u.fi) from rv_c15 (gbx_below x2 b) rfl)
  have Kv3 := Lib.hid fun (U : World) (b : Below W2.heap.size W2 U) => (show U.cell? ⟨g1, 3, none⟩ = some (.int .i64 v.le) from rv_c15 (gbx_below x1 b) rfl)
  have Ku3 := Lib.hid fun (U : World) (b : Below W2.heap.size W2 U) => (show U.cell? ⟨g2, 3, none⟩ = some (.int .i64 u.le) from rv_c15 (gbx_below x2 b) rfl)
  have Kv4 := Lib.hid fun (U : World) (b : Below W2.heap.size W2 U) => (show U.cell? ⟨g1, 4, none⟩ = some (.slice v.tA v.tl v.tc) from rv_c15 (gbx_below x1 b) rfl)
  have Ku4 := Lib.hid fun (U : World) (b : Below W2.heap.size W2 U) => (show U.cell? ⟨g2, 4, none⟩ = some (.slice u.tA u.tl u.tc) from rv_c15 (gbx_below x2 b) rfl)
  have Kv5 := Lib.hid fun (U : World) (b : Below W2.heap.size W2 U) => (show U.cell? ⟨g1, 5, none⟩ = some (.slice v.gA v.gl v.gc) from rv_c15 (gbx_below x1 b) rfl)
  have Ku5 := Lib.hid fun (U : World) (b : Below W2.heap.size W2 U) => (show U.cell? ⟨g2, 5, none⟩ = some (.slice u.gA u.gl u.gc) from rv_c15 (gbx_below x2 b) rfl)
  have Kv6 := Lib.hid fun (U : World) (b : Below W2.heap.size W2 U) => (show U.cell? ⟨g1, 6, none⟩ = some (.slice v.aA v.al v.ac) from rv_c15 (gbx_below x1 b) rfl)
  have Ku6 := Lib.hid fun (U : World) (b : Below W2.heap.size W2 U) => (show U.cell? ⟨g2, 6, none⟩ = some (.slice u.aA u.al u.ac) from rv_c15 (gbx_below x2 b) rfl)
  have d0 : decide (v.er = u.er) = true := decide_eq_true h0
  have e0 : (v.er == u.er) = true := by simpa using h0
  have d1 : decide (v.nu = u.nu) = true := decide_eq_true h1
  have e1 : (v.nu == u.nu) = true := by simpa using h1
  have d2 : decide (v.fi = u.fi) = true := decide_eq_true h2
  have e2 : (v.fi == u.fi) = true := by simpa using h2
  have d3 : decide (v.le = u.le) = true := decide_eq_true h3
  have e3 : (v.le == u.le) = true := by simpa using h3
  have E4 := Lib.hid fun (U : World) (b : Below W2.heap.size W2 U) => (show Calls Tryz.prog 110 #[.slice v.tA v.tl v.tc, .slice u.tA u.tl u.tc] U (fun e w' => e = .returned (.bool false) ∧ Below U.heap.size U w') from by
    have C := equalT v.tA u.tA v.tl u.tl v.tc u.tc r.tr s.tr U ((grd_below vi.tr b2 (Nat.le_refl _)) |> fun h => grd_below h b (Nat.le_refl _)) ((grd_below ui.tr b2 (Nat.le_refl _)) |> fun h => grd_below h b (Nat.le_refl _)) vo.tl uo.tl ro.tr so.tr
    rw [eqL_no hn] at C
    exact C)
  have B2 := Lib.hid b2
  have HW1 := Lib.hid ha
  have HW2 := Lib.hid hb
  have HG1 := Lib.hid hg1
  have HG2 := Lib.hid hg2
  have R0 : Hid (Below W2.heap.size W2 W2) := Lib.hid (Below.refl _ _)
  have kv0 := Kv0.out W2 R0.out
  have ku0 := Ku0.out W2 R0.out
  have kv1 := Kv1.out W2 R0.out
  have ku1 := Ku1.out W2 R0.out
  have kv2 := Kv2.out W2 R0.out
  have ku2 := Ku2.out W2 R0.out
  have kv3 := Kv3.out W2 R0.out
  have ku3 := Ku3.out W2 R0.out
  have kv4 := Kv4.out W2 R0.out
  have ku4 := Ku4.out W2 R0.out
  clear ha hb x1 x2 b2 hg1 hg2 vo uo ro so vi ui h0 h1 h2 h3 hn
  go_enter Tryz.func81, Tryz.ntmps81
  go_wp2_with (first | (rw [HW1.out, HG1.out]) | (rw [HW2.out, HG2.out]))
  refine (E4.out _ R0.out).mono ?_; rintro e w4 ⟨rfl, q⟩
  have R4 := Lib.hid (R0.out.trans (q.mono R0.out.size))
  clear q
  go_wp2_with fail
  go_ret
  exact ⟨rfl, B2.out.trans (R4.out.mono B2.out.size)⟩
set_option maxRecDepth 100000 in
set_option maxHeartbeats 16000000 in
theorem same_5 (v u : Rv) (r s : Rw) (w : World) (vo : v.ok) (vi : v.In w r) (ro : r.ok) (uo : u.ok) (ui : u.In w s) (so : s.ok) (h0 : v.er = u.er) (h1 : v.nu = u.nu) (h2 : v.fi = u.fi) (h3 : v.le = u.le) (h4 : r.tr = s.tr) (hn : r.go ≠ s.go) : Calls Tryz.prog 81 #[.agg (ERv.cells v).toArray, .agg (ERv.cells u).toArray] w fun e w' => e = .returned (.bool false) ∧ Below w.heap.size w w' := by
  obtain ⟨W1, W2, ha, hb, x1, x2, b2⟩ := two_box15 v u w
  obtain ⟨g1, hg1⟩ : ∃ g, w.heap.size = g := ⟨_, rfl⟩
  obtain ⟨g2, hg2⟩ : ∃ g, W1.heap.size = g := ⟨_, rfl⟩
  rw [hg1] at x1
  rw [hg2] at x2
  have Kv0 := Lib.hid fun (U : World) (b : Below W2.heap.size W2 U) => (show U.cell? ⟨g1, 0, none⟩ = some (.int .i64 v.er) from rv_c15 (gbx_below x1 b) rfl)
  have Ku0 := Lib.hid fun (U : World) (b : Below W2.heap.size W2 U) => (show U.cell? ⟨g2, 0, none⟩ = some (.int .i64 u.er) from rv_c15 (gbx_below x2 b) rfl)
  have Kv1 := Lib.hid fun (U : World) (b : Below W2.heap.size W2 U) => (show U.cell? ⟨g1, 1, none⟩ = some (.int .u64 v.nu) from rv_c15 (gbx_below x1 b) rfl)
  have Ku1 := Lib.hid fun (U : World) (b : Below W2.heap.size W2 U) => (show U.cell? ⟨g2, 1, none⟩ = some (.int .u64 u.nu) from rv_c15 (gbx_below x2 b) rfl)
  have Kv2 := Lib.hid fun (U : World) (b : Below W2.heap.size W2 U) => (show U.cell? ⟨g1, 2, none⟩ = some (.int .i64 v.fi) from rv_c15 (gbx_below x1 b) rfl)
  have Ku2 := Lib.hid fun (U : World) (b : Below W2.heap.size W2 U) => (show U.cell? ⟨g2, 2, none⟩ = some (.int .i64 u.fi) from rv_c15 (gbx_below x2 b) rfl)
  have Kv3 := Lib.hid fun (U : World) (b : Below W2.heap.size W2 U) => (show U.cell? ⟨g1, 3, none⟩ = some (.int .i64 v.le) from rv_c15 (gbx_below x1 b) rfl)
  have Ku3 := Lib.hid fun (U : World) (b : Below W2.heap.size W2 U) => (show U.cell? ⟨g2, 3, none⟩ = some (.int .i64 u.le) from rv_c15 (gbx_below x2 b) rfl)
  have Kv4 := Lib.hid fun (U : World) (b : Below W2.heap.size W2 U) => (show U.cell? ⟨g1, 4, none⟩ = some (.slice v.tA v.tl v.tc) from rv_c15 (gbx_below x1 b) rfl)
  have Ku4 := Lib.hid fun (U : World) (b : Below W2.heap.size W2 U) => (show U.cell? ⟨g2, 4, none⟩ = some (.slice u.tA u.tl u.tc) from rv_c15 (gbx_below x2 b) rfl)
  have Kv5 := Lib.hid fun (U : World) (b : Below W2.heap.size W2 U) => (show U.cell? ⟨g1, 5, none⟩ = some (.slice v.gA v.gl v.gc) from rv_c15 (gbx_below x1 b) rfl)
  have Ku5 := Lib.hid fun (U : World) (b : Below W2.heap.size W2 U) => (show U.cell? ⟨g2, 5, none⟩ = some (.slice u.gA u.gl u.gc) from rv_c15 (gbx_below x2 b) rfl)
  have Kv6 := Lib.hid fun (U : World) (b : Below W2.heap.size W2 U) => (show U.cell? ⟨g1, 6, none⟩ = some (.slice v.aA v.al v.ac) from rv_c15 (gbx_below x1 b) rfl)
  have Ku6 := Lib.hid fun (U : World) (b : Below W2.heap.size W2 U) => (show U.cell? ⟨g2, 6, none⟩ = some (.slice u.aA u.al u.ac) from rv_c15 (gbx_below x2 b) rfl)
  have d0 : decide (v.er = u.er) = true := decide_eq_true h0
  have e0 : (v.er == u.er) = true := by simpa using h0
  have d1 : decide (v.nu = u.nu) = true := decide_eq_true h1
  have e1 : (v.nu == u.nu) = true := by simpa using h1
  have d2 : decide (v.fi = u.fi) = true := decide_eq_true h2
  have e2 : (v.fi == u.fi) = true := by simpa using h2
  have d3 : decide (v.le = u.le) = true := decide_eq_true h3
  have e3 : (v.le == u.le) = true := by simpa using h3
  have E4 := Lib.hid fun (U : World) (b : Below W2.heap.size W2 U) => (show Calls Tryz.prog 110 #[.slice v.tA v.tl v.tc, .slice u.tA u.tl u.tc] U (fun e w' => e = .returned (.bool true) ∧ Below U.heap.size U w') from by
    have C := equalT v.tA u.tA v.tl u.tl v.tc u.tc r.tr s.tr U ((grd_below vi.tr b2 (Nat.le_refl _)) |> fun h => grd_below h b (Nat.le_refl _)) ((grd_below ui.tr b2 (Nat.le_refl _)) |> fun h => grd_below h b (Nat.le_refl _)) vo.tl uo.tl ro.tr so.tr
    rw [eqL_yes h4] at C
    exact C)
  have E5 := Lib.hid fun (U : World) (b : Below W2.heap.size W2 U) => (show Calls Tryz.prog 111 #[.slice v.gA v.gl v.gc, .slice u.gA u.gl u.gc] U (fun e w' => e = .returned (.bool false) ∧ Below U.heap.size U w') from by
    have C := equal6 v.gA u.gA v.gl u.gl v.gc u.gc r.go s.go U ((grd_below vi.go b2 (Nat.le_refl _)) |> fun h => grd_below h b (Nat.le_refl _)) ((grd_below ui.go b2 (Nat.le_refl _)) |> fun h => grd_below h b (Nat.le_refl _)) vo.gl uo.gl
    rw [eqL_no hn] at C
    exact C)
  have B2 := Lib.hid b2
  have HW1 := Lib.hid ha
  have HW2 := Lib.hid hb
  have HG1 := Lib.hid hg1
  have HG2 := Lib.hid hg2
  have R0 : Hid (Below W2.heap.size W2 W2) := Lib.hid (Below.refl _ _)
  have kv0 := Kv0.out W2 R0.out
  have ku0 := Ku0.out W2 R0.out
  have kv1 := Kv1.out W2 R0.out
  have ku1 := Ku1.out W2 R0.out
  have kv2 := Kv2.out W2 R0.out
  have ku2 := Ku2.out W2 R0.out
  have kv3 := Kv3.out W2 R0.out
  have ku3 := Ku3.out W2 R0.out
  have kv4 := Kv4.out W2 R0.out
  have ku4 := Ku4.out W2 R0.out
  clear ha hb x1 x2 b2 hg1 hg2 vo uo ro so vi ui h0 h1 h2 h3 h4 hn
  go_enter Tryz.func81, Tryz.ntmps81
  go_wp2_with (first | (rw [HW1.out, HG1.out]) | (rw [HW2.out, HG2.out]))
  refine (E4.out _ R0.out).mono ?_; rintro e w4 ⟨rfl, q⟩
  have R4 := Lib.hid (R0.out.trans (q.mono R0.out.size))
  clear q
  have kv5 := Kv5.out _ R4.out
  have ku5 := Ku5.out _ R4.out
  go_wp2_with fail
  refine (E5.out _ R4.out).mono ?_; rintro e w5 ⟨rfl, q⟩
  have R5 := Lib.hid (R4.out.trans (q.mono R4.out.size))
  clear q
  go_wp2_with fail
  go_ret
  exact ⟨rfl, B2.out.trans (R5.out.mono B2.out.size)⟩
set_option maxRecDepth 100000 in
set_option maxHeartbeats 16000000 in
theorem same_6 (v u : Rv) (r s : Rw) (w : World) (vo : v.ok) (vi : v.In w r) (ro : r.ok) (uo : u.ok) (ui : u.In w s) (so : s.ok) (h0 : v.er = u.er) (h1 : v.nu = u.nu) (h2 : v.fi = u.fi) (h3 : v.le = u.le) (h4 : r.tr = s.tr) (h5 : r.go = s.go) (hn : r.ac ≠ s.ac) : Calls Tryz.prog 81 #[.agg (ERv.cells v).toArray, .agg (ERv.cells u).toArray] w fun e w' => e = .returned (.bool false) ∧ Below w.heap.size w w' := by
  obtain ⟨W1, W2, ha, hb, x1, x2, b2⟩ := two_box15 v u w
  obtain ⟨g1, hg1⟩ : ∃ g, w.heap.size = g := ⟨_, rfl⟩
  obtain ⟨g2, hg2⟩ : ∃ g, W1.heap.size = g := ⟨_, rfl⟩
  rw [hg1] at x1
  rw [hg2] at x2
  have Kv0 := Lib.hid fun (U : World) (b : Below W2.heap.size W2 U) => (show U.cell? ⟨g1, 0, none⟩ = some (.int .i64 v.er) from rv_c15 (gbx_below x1 b) rfl)
  have Ku0 := Lib.hid fun (U : World) (b : Below W2.heap.size W2 U) => (show U.cell? ⟨g2, 0, none⟩ = some (.int .i64 u.er) from rv_c15 (gbx_below x2 b) rfl)
  have Kv1 := Lib.hid fun (U : World) (b : Below W2.heap.size W2 U) => (show U.cell? ⟨g1, 1, none⟩ = some (.int .u64 v.nu) from rv_c15 (gbx_below x1 b) rfl)
  have Ku1 := Lib.hid fun (U : World) (b : Below W2.heap.size W2 U) => (show U.cell? ⟨g2, 1, none⟩ = some (.int .u64 u.nu) from rv_c15 (gbx_below x2 b) rfl)
  have Kv2 := Lib.hid fun (U : World) (b : Below W2.heap.size W2 U) => (show U.cell? ⟨g1, 2, none⟩ = some (.int .i64 v.fi) from rv_c15 (gbx_below x1 b) rfl)
  have Ku2 := Lib.hid fun (U : World) (b : Below W2.heap.size W2 U) => (show U.cell? ⟨g2, 2, none⟩ = some (.int .i64 u.fi) from rv_c15 (gbx_below x2 b) rfl)
  have Kv3 := Lib.hid fun (U : World) (b : Below W2.heap.size W2 U) => (show U.cell? ⟨g1, 3, none⟩ = some (.int .i64 v.le) from rv_c15 (gbx_below x1 b) rfl)
  have Ku3 := Lib.hid fun (U : World) (b : Below W2.heap.size W2 U) => (show U.cell? ⟨g2, 3, none⟩ = some (.int .i64 u.le) from rv_c15 (gbx_below x2 b) rfl)
  have Kv4 := Lib.hid fun (U : World) (b : Below W2.heap.size W2 U) => (show U.cell? ⟨g1, 4, none⟩ = some (.slice v.tA v.tl v.tc) from rv_c15 (gbx_below x1 b) rfl)
  have Ku4 := Lib.hid fun (U : World) (b : Below W2.heap.size W2 U) => (show U.cell? ⟨g2, 4, none⟩ = some (.slice u.tA u.tl u.tc) from rv_c15 (gbx_below x2 b) rfl)
  have Kv5 := Lib.hid fun (U : World) (b : Below W2.heap.size W2 U) => (show U.cell? ⟨g1, 5, none⟩ = some (.slice v.gA v.gl v.gc) from rv_c15 (gbx_below x1 b) rfl)
  have Ku5 := Lib.hid fun (U : World) (b : Below W2.heap.size W2 U) => (show U.cell? ⟨g2, 5, none⟩ = some (.slice u.gA u.gl u.gc) from rv_c15 (gbx_below x2 b) rfl)
  have Kv6 := Lib.hid fun (U : World) (b : Below W2.heap.size W2 U) => (show U.cell? ⟨g1, 6, none⟩ = some (.slice v.aA v.al v.ac) from rv_c15 (gbx_below x1 b) rfl)
  have Ku6 := Lib.hid fun (U : World) (b : Below W2.heap.size W2 U) => (show U.cell? ⟨g2, 6, none⟩ = some (.slice u.aA u.al u.ac) from rv_c15 (gbx_below x2 b) rfl)
  have d0 : decide (v.er = u.er) = true := decide_eq_true h0
  have e0 : (v.er == u.er) = true := by simpa using h0
  have d1 : decide (v.nu = u.nu) = true := decide_eq_true h1
  have e1 : (v.nu == u.nu) = true := by simpa using h1
  have d2 : decide (v.fi = u.fi) = true := decide_eq_true h2
  have e2 : (v.fi == u.fi) = true := by simpa using h2
  have d3 : decide (v.le = u.le) = true := decide_eq_true h3
  have e3 : (v.le == u.le) = true := by simpa using h3
  have E4 := Lib.hid fun (U : World) (b : Below W2.heap.size W2 U) => (show Calls Tryz.prog 110 #[.slice v.tA v.tl v.tc, .slice u.tA u.tl u.tc] U (fun e w' => e = .returned (.bool true) ∧ Below U.heap.size U w') from by
    have C := equalT v.tA u.tA v.tl u.tl v.tc u.tc r.tr s.tr U ((grd_below vi.tr b2 (Nat.le_refl _)) |> fun h => grd_below h b (Nat.le_refl _)) ((grd_below ui.tr b2 (Nat.le_refl _)) |> fun h => grd_below h b (Nat.le_refl _)) vo.tl uo.tl ro.tr so.tr
    rw [eqL_yes h4] at C
    exact C)
  have E5 := Lib.hid fun (U : World) (b : Below W2.heap.size W2 U) => (show Calls Tryz.prog 111 #[.slice v.gA v.gl v.gc, .slice u.gA u.gl u.gc] U (fun e w' => e = .returned (.bool true) ∧ Below U.heap.size U w') from by
    have C := equal6 v.gA u.gA v.gl u.gl v.gc u.gc r.go s.go U ((grd_below vi.go b2 (Nat.le_refl _)) |> fun h => grd_below h b (Nat.le_refl _)) ((grd_below ui.go b2 (Nat.le_refl _)) |> fun h => grd_below h b (Nat.le_refl _)) vo.gl uo.gl
    rw [eqL_yes h5] at C
    exact C)
  have E6 := Lib.hid fun (U : World) (b : Below W2.heap.size W2 U) => (show Calls Tryz.prog 112 #[.slice v.aA v.al v.ac, .slice u.aA u.al u.ac] U (fun e w' => e = .returned (.bool false) ∧ Below U.heap.size U w') from by
    have C := equal3 v.aA u.aA v.al u.al v.ac u.ac r.ac s.ac U ((grd_below vi.ac b2 (Nat.le_refl _)) |> fun h => grd_below h b (Nat.le_refl _)) ((grd_below ui.ac b2 (Nat.le_refl _)) |> fun h => grd_below h b (Nat.le_refl _)) vo.al uo.al
    rw [eqL_no hn] at C
    exact C)
  have B2 := Lib.hid b2
  have HW1 := Lib.hid ha
  have HW2 := Lib.hid hb
  have HG1 := Lib.hid hg1
  have HG2 := Lib.hid hg2
  have R0 : Hid (Below W2.heap.size W2 W2) := Lib.hid (Below.refl _ _)
  have kv0 := Kv0.out W2 R0.out
  have ku0 := Ku0.out W2 R0.out
  have kv1 := Kv1.out W2 R0.out
  have ku1 := Ku1.out W2 R0.out
  have kv2 := Kv2.out W2 R0.out
  have ku2 := Ku2.out W2 R0.out
  have kv3 := Kv3.out W2 R0.out
  have ku3 := Ku3.out W2 R0.out
  have kv4 := Kv4.out W2 R0.out
  have ku4 := Ku4.out W2 R0.out
  clear ha hb x1 x2 b2 hg1 hg2 vo uo ro so vi ui h0 h1 h2 h3 h4 h5 hn
  go_enter Tryz.func81, Tryz.ntmps81
  go_wp2_with (first | (rw [HW1.out, HG1.out]) | (rw [HW2.out, HG2.out]))
  refine (E4.out _ R0.out).mono ?_; rintro e w4 ⟨rfl, q⟩
  have R4 := Lib.hid (R0.out.trans (q.mono R0.out.size))
  clear q
  have kv5 := Kv5.out _ R4.out
  have ku5 := Ku5.out _ R4.out
  go_wp2_with fail
  refine (E5.out _ R4.out).mono ?_; rintro e w5 ⟨rfl, q⟩
  have R5 := Lib.hid (R4.out.trans (q.mono R4.out.size))
  clear q
  have kv6 := Kv6.out _ R5.out
  have ku6 := Ku6.out _ R5.out
  go_wp2_with fail
  refine (E6.out _ R5.out).mono ?_; rintro e w6 ⟨rfl, q⟩
  have R6 := Lib.hid (R5.out.trans (q.mono R5.out.size))
  clear q
  go_wp2_with fail
  go_ret
  exact ⟨rfl, B2.out.trans (R6.out.mono B2.out.size)⟩
set_option maxRecDepth 100000 in
set_option maxHeartbeats 16000000 in
theorem same_7 (v u : Rv) (r s : Rw) (w : World) (vo : v.ok) (vi : v.In w r) (ro : r.ok) (uo : u.ok) (ui : u.In w s) (so : s.ok) (h0 : v.er = u.er) (h1 : v.nu = u.nu) (h2 : v.fi = u.fi) (h3 : v.le = u.le) (h4 : r.tr = s.tr) (h5 : r.go = s.go) (h6 : r.ac = s.ac) : Calls Tryz.prog 81 #[.agg (ERv.cells v).toArray, .agg (ERv.cells u).toArray] w fun e w' => e = .returned (.bool true) ∧ Below w.heap.size w w' := by
  obtain ⟨W1, W2, ha, hb, x1, x2, b2⟩ := two_box15 v u w
  obtain ⟨g1, hg1⟩ : ∃ g, w.heap.size = g := ⟨_, rfl⟩
  obtain ⟨g2, hg2⟩ : ∃ g, W1.heap.size = g := ⟨_, rfl⟩
  rw [hg1] at x1
  rw [hg2] at x2
  have Kv0 := Lib.hid fun (U : World) (b : Below W2.heap.size W2 U) => (show U.cell? ⟨g1, 0, none⟩ = some (.int .i64 v.er) from rv_c15 (gbx_below x1 b) rfl)
  have Ku0 := Lib.hid fun (U : World) (b : Below W2.heap.size W2 U) => (show U.cell? ⟨g2, 0, none⟩ = some (.int .i64 u.er) from rv_c15 (gbx_below x2 b) rfl)
  have Kv1 := Lib.hid fun (U : World) (b : Below W2.heap.size W2 U) => (show U.cell? ⟨g1, 1, none⟩ = some (.int .u64 v.nu) from rv_c15 (gbx_below x1 b) rfl)
  have Ku1 := Lib.hid fun (U : World) (b : Below W2.heap.size W2 U) => (show U.cell? ⟨g2, 1, none⟩ = some (.int .u64 u.nu) from rv_c15 (gbx_below x2 b) rfl)
  have Kv2 := Lib.hid fun (U : World) (b : Below W2.heap.size W2 U) => (show U.cell? ⟨g1, 2, none⟩ = some (.int .i64 v.fi) from rv_c15 (gbx_below x1 b) rfl)
  have Ku2 := Lib.hid fun (U : World) (b : Below W2.heap.size W2 U) => (show U.cell? ⟨g2, 2, none⟩ = some (.int .i64 u.fi) from rv_c15 (gbx_below x2 b) rfl)
  have Kv3 := Lib.hid fun (U : World) (b : Below W2.heap.size W2 U) => (show U.cell? ⟨g1, 3, none⟩ = some (.int .i64 v.le) from rv_c15 (gbx_below x1 b) rfl)
  have Ku3 := Lib.hid fun (U : World) (b : Below W2.heap.size W2 U) => (show U.cell? ⟨g2, 3, none⟩ = some (.int .i64 u.le) from rv_c15 (gbx_below x2 b) rfl)
  have Kv4 := Lib.hid fun (U : World) (b : Below W2.heap.size W2 U) => (show U.cell? ⟨g1, 4, none⟩ = some (.slice v.tA v.tl v.tc) from rv_c15 (gbx_below x1 b) rfl)
  have Ku4 := Lib.hid fun (U : World) (b : Below W2.heap.size W2 U) => (show U.cell? ⟨g2, 4, none⟩ = some (.slice u.tA u.tl u.tc) from rv_c15 (gbx_below x2 b) rfl)
  have Kv5 := Lib.hid fun (U : World) (b : Below W2.heap.size W2 U) => (show U.cell? ⟨g1, 5, none⟩ = some (.slice v.gA v.gl v.gc) from rv_c15 (gbx_below x1 b) rfl)
  have Ku5 := Lib.hid fun (U : World) (b : Below W2.heap.size W2 U) => (show U.cell? ⟨g2, 5, none⟩ = some (.slice u.gA u.gl u.gc) from rv_c15 (gbx_below x2 b) rfl)
  have Kv6 := Lib.hid fun (U : World) (b : Below W2.heap.size W2 U) => (show U.cell? ⟨g1, 6, none⟩ = some (.slice v.aA v.al v.ac) from rv_c15 (gbx_below x1 b) rfl)
  have Ku6 := Lib.hid fun (U : World) (b : Below W2.heap.size W2 U) => (show U.cell? ⟨g2, 6, none⟩ = some (.slice u.aA u.al u.ac) from rv_c15 (gbx_below x2 b) rfl)
  have d0 : decide (v.er = u.er) = true := decide_eq_true h0
  have e0 : (v.er == u.er) = true := by simpa using h0
  have d1 : decide (v.nu = u.nu) = true := decide_eq_true h1
  have e1 : (v.nu == u.nu) = true := by simpa using h1
  have d2 : decide (v.fi = u.fi) = true := decide_eq_true h2
  have e2 : (v.fi == u.fi) = true := by simpa using h2
  have d3 : decide (v.le = u.le) = true := decide_eq_true h3
  have e3 : (v.le == u.le) = true := by simpa using h3
  have E4 := Lib.hid fun (U : World) (b : Below W2.heap.size W2 U) => (show Calls Tryz.prog 110 #[.slice v.tA v.tl v.tc, .slice u.tA u.tl u.tc] U (fun e w' => e = .returned (.bool true) ∧ Below U.heap.size U w') from by
    have C := equalT v.tA u.tA v.tl u.tl v.tc u.tc r.tr s.tr U ((grd_below vi.tr b2 (Nat.le_refl _)) |> fun h => grd_below h b (Nat.le_refl _)) ((grd_below ui.tr b2 (Nat.le_refl _)) |> fun h => grd_below h b (Nat.le_refl _)) vo.tl uo.tl ro.tr so.tr
    rw [eqL_yes h4] at C
    exact C)
  have E5 := Lib.hid fun (U : World) (b : Below W2.heap.size W2 U) => (show Calls Tryz.prog 111 #[.slice v.gA v.gl v.gc, .slice u.gA u.gl u.gc] U (fun e w' => e = .returned (.bool true) ∧ Below U.heap.size U w') from by
    have C := equal6 v.gA u.gA v.gl u.gl v.gc u.gc r.go s.go U ((grd_below vi.go b2 (Nat.le_refl _)) |> fun h => grd_below h b (Nat.le_refl _)) ((grd_below ui.go b2 (Nat.le_refl _)) |> fun h => grd_below h b (Nat.le_refl _)) vo.gl uo.gl
    rw [eqL_yes h5] at C
    exact C)
  have E6 := Lib.hid fun (U : World) (b : Below W2.heap.size W2 U) => (show Calls Tryz.prog 112 #[.slice v.aA v.al v.ac, .slice u.aA u.al u.ac] U (fun e w' => e = .returned (.bool true) ∧ Below U.heap.size U w') from by
    have C := equal3 v.aA u.aA v.al u.al v.ac u.ac r.ac s.ac U ((grd_below vi.ac b2 (Nat.le_refl _)) |> fun h => grd_below h b (Nat.le_refl _)) ((grd_below ui.ac b2 (Nat.le_refl _)) |> fun h => grd_below h b (Nat.le_refl _)) vo.al uo.al
    rw [eqL_yes h6] at C
    exact C)
  have B2 := Lib.hid b2
  have HW1 := Lib.hid ha
  have HW2 := Lib.hid hb
  have HG1 := Lib.hid hg1
  have HG2 := Lib.hid hg2
  have R0 : Hid (Below W2.heap.size W2 W2) := Lib.hid (Below.refl _ _)
  have kv0 := Kv0.out W2 R0.out
  have ku0 := Ku0.out W2 R0.out
  have kv1 := Kv1.out W2 R0.out
  have ku1 := Ku1.out W2 R0.out
  have kv2 := Kv2.out W2 R0.out
  have ku2 := Ku2.out W2 R0.out
  have kv3 := Kv3.out W2 R0.out
  have ku3 := Ku3.out W2 R0.out
  have kv4 := Kv4.out W2 R0.out
  have ku4 := Ku4.out W2 R0.out
  clear ha hb x1 x2 b2 hg1 hg2 vo uo ro so vi ui h0 h1 h2 h3 h4 h5 h6
  go_enter Tryz.func81, Tryz.ntmps81
  go_wp2_with (first | (rw [HW1.out, HG1.out]) | (rw [HW2.out, HG2.out]))
  refine (E4.out _ R0.out).mono ?_; rintro e w4 ⟨rfl, q⟩
  have R4 := Lib.hid (R0.out.trans (q.mono R0.out.size))
  clear q
  have kv5 := Kv5.out _ R4.out
  have ku5 := Ku5.out _ R4.out
  go_wp2_with fail
  refine (E5.out _ R4.out).mono ?_; rintro e w5 ⟨rfl, q⟩
  have R5 := Lib.hid (R4.out.trans (q.mono R4.out.size))
  clear q
  have kv6 := Kv6.out _ R5.out
  have ku6 := Ku6.out _ R5.out
  go_wp2_with fail
  refine (E6.out _ R5.out).mono ?_; rintro e w6 ⟨rfl, q⟩
  have R6 := Lib.hid (R5.out.trans (q.mono R5.out.size))
  clear q
  go_wp2_with fail
  go_ret
  exact ⟨rfl, B2.out.trans (R6.out.mono B2.out.size)⟩
theorem psame15 (v u : Rv) (r s : Rw) (w : World) (vo : v.ok) (vi : v.In w r) (ro : r.ok) (uo : u.ok) (ui : u.In w s) (so : s.ok) : Calls Tryz.prog 81 #[.agg (ERv.cells v).toArray, .agg (ERv.cells u).toArray] w fun e w' => e = .returned (.bool (eqRw r s)) ∧ Below w.heap.size w w' := by
  by_cases h0 : v.er = u.er
  case neg =>
    rw [eqRw_no15 fun e => h0 (by subst e; exact vi.er.trans ui.er.symm)]
    exact same_0 v u r s w vo vi ro uo ui so h0
  by_cases h1 : v.nu = u.nu
  case neg =>
    rw [eqRw_no15 fun e => h1 (by subst e; exact vi.nu.trans ui.nu.symm)]
    exact same_1 v u r s w vo vi ro uo ui so h0 h1
  by_cases h2 : v.fi = u.fi
  case neg =>
    rw [eqRw_no15 fun e => h2 (by subst e; exact vi.fi.trans ui.fi.symm)]
    exact same_2 v u r s w vo vi ro uo ui so h0 h1 h2
  by_cases h3 : v.le = u.le
  case neg =>
    rw [eqRw_no15 fun e => h3 (by subst e; exact vi.le.trans ui.le.symm)]
    exact same_3 v u r s w vo vi ro uo ui so h0 h1 h2 h3
  by_cases h4 : r.tr = s.tr
  case neg =>
    rw [eqRw_no15 fun e => h4 (by subst e; rfl)]
    exact same_4 v u r s w vo vi ro uo ui so h0 h1 h2 h3 h4
  by_cases h5 : r.go = s.go
  case neg =>
    rw [eqRw_no15 fun e => h5 (by subst e; rfl)]
    exact same_5 v u r s w vo vi ro uo ui so h0 h1 h2 h3 h4 h5
  by_cases h6 : r.ac = s.ac
  case neg =>
    rw [eqRw_no15 fun e => h6 (by subst e; rfl)]
    exact same_6 v u r s w vo vi ro uo ui so h0 h1 h2 h3 h4 h5 h6
  rw [eqRw_yes.2 (rw_eq15 (vi.er.symm.trans (h0.trans ui.er)) (vi.nu.symm.trans (h1.trans ui.nu)) (vi.fi.symm.trans (h2.trans ui.fi)) (vi.le.symm.trans (h3.trans ui.le)) h4 h5 h6)]
  exact same_7 v u r s w vo vi ro uo ui so h0 h1 h2 h3 h4 h5 h6
end Go.Proofs.YtbmlpokkojhhjaaGreat.Wz
