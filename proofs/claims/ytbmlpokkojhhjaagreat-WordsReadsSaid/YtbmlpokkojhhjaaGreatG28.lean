/- The document's SameReply (by genWdq.py). -/
import Derived.DeepKeys
import Derived.Laws.StructEq
import Derived.Deep.RegionHeld
import Derived.Test.YtbmlpokkojhhjaaGreatG03
import Derived.Test.YtbmlpokkojhhjaaGreatG06
namespace Go.Proofs.YtbmlpokkojhhjaaGreat
open Go.RowKit
set_option linter.unusedVariables false
set_option linter.unusedSimpArgs false

def Tw.lits (o : Tw) : List Lit := [.int .i64 o.px, .int .i64 o.qt, .int .u64 o.nu, .int .u32 o.ac]
theorem lits_tw15 (o : Tw) (ok : o.ok) : Tryz.prog.keyLits 3 72 (ETw.cells o) = some o.lits := by
  have h0 : (Lit.int .i64 o.px).wf = true := by
    obtain ⟨a, b⟩ := ok.px
    simp [Lit.wf, IntKind.min, IntKind.max, IntKind.signed, IntKind.bits]
    omega
  have h1 : (Lit.int .i64 o.qt).wf = true := by
    obtain ⟨a, b⟩ := ok.qt
    simp [Lit.wf, IntKind.min, IntKind.max, IntKind.signed, IntKind.bits]
    omega
  have h3 : (Lit.int .u64 o.nu).wf = true := by
    have := ok.nu
    simp [Lit.wf, IntKind.min, IntKind.max, IntKind.signed, IntKind.bits]
    omega
  have h4 : (Lit.int .u32 o.ac).wf = true := by
    have := ok.ac
    simp [Lit.wf, IntKind.min, IntKind.max, IntKind.signed, IntKind.bits]
    omega
  have c1 : Tryz.prog.cellsOf 26 = 1 := by kernel_rfl
  have c2 : Tryz.prog.cellsOf 25 = 1 := by kernel_rfl
  have c4 : Tryz.prog.cellsOf 2 = 1 := by kernel_rfl
  have c5 : Tryz.prog.cellsOf 72 = 4 := by kernel_rfl
  simp [Program.keyLits, ETw, Tw.lits, c5, Tryz.underlying72, Tryz.underlying26, Tryz.underlying25, Tryz.underlying2, c1, c2, c4, h0, h1, h3, h4]
theorem formed_tw15 (o : Tw) : (Value.agg (ETw.cells o).toArray).formed Tryz.prog 72 = true := by
  have c5 : Tryz.prog.cellsOf 72 = 4 := by kernel_rfl
  simp [Value.formed, Tryz.underlying72, c5, ETw]
theorem key_tw15 : Tryz.prog.keyTypeAt 3 72 = true := by kernel_rfl
theorem guard_tw15 : Tryz.prog.eqGuardType Tryz.prog.depth 72 = false := by kernel_rfl
theorem tw15_lits_inj {x y : Tw} (h : x.lits = y.lits) : x = y := by
  obtain ⟨a, b, c, d⟩ := x
  obtain ⟨a', b', c', d'⟩ := y
  simp [Tw.lits] at h
  simp [h]
open Classical in
/-- The same Bool in every world. -/
noncomputable def eqTw (x y : Tw) : Bool := decide (x = y)
theorem eqTw_yes (x : Tw) : eqTw x x = true := by simp [eqTw]
theorem eqTw_no {x y : Tw} (h : x ≠ y) : eqTw x y = false := by simp [eqTw, h]
theorem eqTw_iff {x y : Tw} : eqTw x y = true ↔ x = y := by simp [eqTw]
theorem eq_tw15_run (x y : Tw) (hx : x.ok) (hy : y.ok) (w : World) : (Op.equalIn 10000 72 (.agg (ETw.cells x).toArray) (.agg (ETw.cells y).toArray)).run Tryz.prog w = .ok (eqTw x y) w := by
  have ex : (Value.agg (ETw.cells x).toArray).cells.toList = ETw.cells x := by simp [Value.cells]
  have ey : (Value.agg (ETw.cells y).toArray).cells.toList = ETw.cells y := by simp [Value.cells]
  obtain ⟨r, h1, h2⟩ := run_equalIn_deep (P := Tryz.prog) 9997 3 72 key_tw15 w 3 3 (.agg (ETw.cells x).toArray) (.agg (ETw.cells y).toArray) x.lits y.lits (formed_tw15 x) (formed_tw15 y) (by rw [ex]; exact lits_tw15 x hx) (by rw [ey]; exact lits_tw15 y hy)
  rw [h1]
  have : r = eqTw x y := by
    have h3 : r = true ↔ x = y := h2.trans ⟨tw15_lits_inj, fun e => by rw [e]⟩
    by_cases c : x = y
    · rw [h3.2 c, eqTw_iff.2 c]
    · rw [eqTw_no c]
      cases r
      · rfl
      · exact absurd (h3.1 rfl) c
  rw [this]
theorem exec_neq_tw15 {o : Oper} {a : Act} {x y : Operand} {t2 : TypeId} (ho : o.op = .binOp .neq 72 x y t2) {u v : Tw} (hu : u.ok) (hv : v.ok) (hx : a.eval x = .agg (ETw.cells u).toArray) (hy : a.eval y = .agg (ETw.cells v).toArray) (w : World) :
    (execOp a.eval o).run Tryz.prog w = .ok (.value (.bool !(eqTw u v))) w := by
  unfold execOp
  simp only [ho, hx, hy, Sem.run_bind, run_eqGuard_agg w _ _ _ _ _ _ guard_tw15, Result.andThen_ok, run_neq_struct, eq_tw15_run u v hu hv w, Sem.run_pure]
theorem exec_eql_tw15 {o : Oper} {a : Act} {x y : Operand} {t2 : TypeId} (ho : o.op = .binOp .eql 72 x y t2) {u v : Tw} (hu : u.ok) (hv : v.ok) (hx : a.eval x = .agg (ETw.cells u).toArray) (hy : a.eval y = .agg (ETw.cells v).toArray) (w : World) :
    (execOp a.eval o).run Tryz.prog w = .ok (.value (.bool (eqTw u v))) w := by
  unfold execOp
  simp only [ho, hx, hy, Sem.run_bind, run_eqGuard_agg w _ _ _ _ _ _ guard_tw15, Result.andThen_ok, run_eql_struct, eq_tw15_run u v hu hv w, Sem.run_pure]
theorem yields_neq_tw15 {ops : Array Oper} {S : World → Prop} {o : Oper} {a : Act} (hw : Region.wanted o (yielded ops a.tmps) = true) (x y : Operand) {t2 : TypeId} (ho : o.op = .binOp .neq 72 x y t2) {u v : Tw} (hu : u.ok) (hv : v.ok) (hx : a.eval x = .agg (ETw.cells u).toArray) (hy : a.eval y = .agg (ETw.cells v).toArray) :
    YieldsIf Tryz.prog ops S o (.bool !(eqTw u v)) a := .inl ⟨hw, fun w _ => exec_neq_tw15 ho hu hv hx hy w⟩
theorem yields_eql_tw15 {ops : Array Oper} {S : World → Prop} {o : Oper} {a : Act} (hw : Region.wanted o (yielded ops a.tmps) = true) (x y : Operand) {t2 : TypeId} (ho : o.op = .binOp .eql 72 x y t2) {u v : Tw} (hu : u.ok) (hv : v.ok) (hx : a.eval x = .agg (ETw.cells u).toArray) (hy : a.eval y = .agg (ETw.cells v).toArray) :
    YieldsIf Tryz.prog ops S o (.bool (eqTw u v)) a := .inl ⟨hw, fun w _ => exec_eql_tw15 ho hu hv hx hy w⟩

theorem eqRw_no15 {r s : Rw} (h : r ≠ s) : eqRw r s = false := by
  cases e : eqRw r s
  · rfl
  · exact absurd (eqRw_yes.1 e) h
theorem rw_eq15 {r s : Rw} (h1 : r.er = s.er) (h2 : r.nu = s.nu) (h3 : r.fi = s.fi) (h4 : r.le = s.le) (h5 : r.tr = s.tr) (h6 : r.go = s.go) (h7 : r.ac = s.ac) : r = s := by
  cases r; cases s
  simp only [Rw.mk.injEq]
  exact ⟨h1, h2, h3, h4, h5, h6, h7⟩
/-- Two replies, boxed. -/
theorem two_box15 (v u : Rv) (w : World) : ∃ W1 W2, w.alloc (.cells (ERv.cells v).toArray 40) = W1 ∧ W1.alloc (.cells (ERv.cells u).toArray 40) = W2 ∧ ERv.Bx 40 W2 w.heap.size v ∧ ERv.Bx 40 W2 W1.heap.size u ∧ Below w.heap.size w W2 := by
  refine ⟨_, _, rfl, rfl, gbx_below (gbx_new w v) (below_new _ _), gbx_new _ u, ?_⟩
  exact (below_new w _).trans ((below_new _ _).mono (below_new w _).size)
theorem rv_c15 {w : World} {g : Nat} {te : TypeId} {v : Rv} (h : ERv.Bx te w g v) {j : Nat} {x : Value} (hj : (ERv.cells v)[j]? = some x) : w.cell? ⟨g, j, none⟩ = some x := (gbx_cell h j).trans hj
set_option maxRecDepth 100000 in
set_option maxHeartbeats 32000000 in
theorem rsame15_bad (v u : Rv) (w : World) (vo : v.ok) (uo : u.ok) (hne : ¬ (v.er = u.er ∧ v.nu = u.nu ∧ v.fi = u.fi ∧ v.le = u.le ∧ v.tl = u.tl ∧ v.gl = u.gl ∧ v.al = u.al)) : Calls Tryz.prog 9 #[.agg (ERv.cells v).toArray, .agg (ERv.cells u).toArray] w fun e w' => e = .returned (.bool false) ∧ Below w.heap.size w w' := by
  obtain ⟨W1, W2, h1, h2, x1, x2, b2⟩ := two_box15 v u w
  obtain ⟨g1, hg1⟩ : ∃ g, w.heap.size = g := ⟨_, rfl⟩
  obtain ⟨g2, hg2⟩ : ∃ g, W1.heap.size = g := ⟨_, rfl⟩
  rw [hg1] at x1
  rw [hg2] at x2
  have KV0 := Lib.hid (show W2.cell? ⟨g1, 0, none⟩ = some (.int .i64 v.er) from rv_c15 x1 rfl)
  have KV1 := Lib.hid (show W2.cell? ⟨g1, 1, none⟩ = some (.int .u64 v.nu) from rv_c15 x1 rfl)
  have KV2 := Lib.hid (show W2.cell? ⟨g1, 2, none⟩ = some (.int .i64 v.fi) from rv_c15 x1 rfl)
  have KV3 := Lib.hid (show W2.cell? ⟨g1, 3, none⟩ = some (.int .i64 v.le) from rv_c15 x1 rfl)
  have KV4 := Lib.hid (show W2.cell? ⟨g1, 4, none⟩ = some (.slice v.tA v.tl v.tc) from rv_c15 x1 rfl)
  have KV5 := Lib.hid (show W2.cell? ⟨g1, 5, none⟩ = some (.slice v.gA v.gl v.gc) from rv_c15 x1 rfl)
  have KV6 := Lib.hid (show W2.cell? ⟨g1, 6, none⟩ = some (.slice v.aA v.al v.ac) from rv_c15 x1 rfl)
  have KU0 := Lib.hid (show W2.cell? ⟨g2, 0, none⟩ = some (.int .i64 u.er) from rv_c15 x2 rfl)
  have KU1 := Lib.hid (show W2.cell? ⟨g2, 1, none⟩ = some (.int .u64 u.nu) from rv_c15 x2 rfl)
  have KU2 := Lib.hid (show W2.cell? ⟨g2, 2, none⟩ = some (.int .i64 u.fi) from rv_c15 x2 rfl)
  have KU3 := Lib.hid (show W2.cell? ⟨g2, 3, none⟩ = some (.int .i64 u.le) from rv_c15 x2 rfl)
  have KU4 := Lib.hid (show W2.cell? ⟨g2, 4, none⟩ = some (.slice u.tA u.tl u.tc) from rv_c15 x2 rfl)
  have KU5 := Lib.hid (show W2.cell? ⟨g2, 5, none⟩ = some (.slice u.gA u.gl u.gc) from rv_c15 x2 rfl)
  have KU6 := Lib.hid (show W2.cell? ⟨g2, 6, none⟩ = some (.slice u.aA u.al u.ac) from rv_c15 x2 rfl)
  obtain ⟨y0, hy0⟩ : ∃ b : Bool, (v.er != u.er) = b := ⟨_, rfl⟩
  obtain ⟨y1, hy1⟩ : ∃ b : Bool, (v.nu != u.nu) = b := ⟨_, rfl⟩
  obtain ⟨y2, hy2⟩ : ∃ b : Bool, (v.fi != u.fi) = b := ⟨_, rfl⟩
  obtain ⟨y3, hy3⟩ : ∃ b : Bool, (v.le != u.le) = b := ⟨_, rfl⟩
  obtain ⟨y4, hy4⟩ : ∃ b : Bool, ((v.tl : Int) != (u.tl : Int)) = b := ⟨_, rfl⟩
  obtain ⟨y5, hy5⟩ : ∃ b : Bool, ((v.gl : Int) != (u.gl : Int)) = b := ⟨_, rfl⟩
  obtain ⟨y6, hy6⟩ : ∃ b : Bool, ((v.al : Int) != (u.al : Int)) = b := ⟨_, rfl⟩
  have NE : Hid (((((((y0 || y1) || y2) || y3) || y4) || y5) || y6) = true) := Lib.hid (by
    cases e : ((((((y0 || y1) || y2) || y3) || y4) || y5) || y6)
    · exfalso
      simp only [Bool.or_eq_false_iff] at e
      obtain ⟨⟨⟨⟨⟨⟨e0, e1⟩, e2⟩, e3⟩, e4⟩, e5⟩, e6⟩ := e
      rw [e0] at hy0; rw [e1] at hy1; rw [e2] at hy2; rw [e3] at hy3; rw [e4] at hy4; rw [e5] at hy5; rw [e6] at hy6
      simp at hy0 hy1 hy2 hy3 hy4 hy5 hy6
      exact hne ⟨hy0, hy1, hy2, hy3, by omega, by omega, by omega⟩
    · rfl)
  have B2 := Lib.hid (show Below w.heap.size w W2 from b2)
  have HW1 := Lib.hid h1
  have HW2 := Lib.hid h2
  have HG1 := Lib.hid hg1
  have HG2 := Lib.hid hg2
  have Y0 := Lib.hid hy0
  have Y1 := Lib.hid hy1
  have Y2 := Lib.hid hy2
  have Y3 := Lib.hid hy3
  have Y4 := Lib.hid hy4
  have Y5 := Lib.hid hy5
  have Y6 := Lib.hid hy6
  clear h1 h2 x1 x2 b2 hg1 hg2 hne vo uo hy0 hy1 hy2 hy3 hy4 hy5 hy6
  go_enter Tryz.func9, Tryz.ntmps9
  go_wp2_with (first | (rw [HW1.out, HG1.out]) | (rw [HW2.out, HG2.out]) | (with_reducible refine stop_of (p := wpList _ _ _ ({ dst := some 8, op := _, type := _, pos := _, after := _, guard := _ } :: _) _ _) ?_))
  refine stop_end ?_
  refine gv_start 115 rfl rfl ?_
  intro a hz hf hl
  have f2 : a.tmps[2]? = some (.pointer (some ⟨g1, 0, none⟩)) := hl 2
  have f3 : a.tmps[3]? = some (.pointer (some ⟨g2, 0, none⟩)) := hl 3
  clear hl
  refine gv_do (.pointer (some ⟨g1, 0, none⟩)) hz hf rfl (by decide) rfl ?_ (fun a1 hz2 hf2 hd hs => ?_)
  · have ev2 := gv_ev f2; unfold execOp; simp only [ev2]; go_simp
  replace f2 := (hs 2 (by decide)).trans f2
  replace f3 := (hs 3 (by decide)).trans f3
  have f8 := hd
  clear hz hf hd hs
  have hz := hz2; have hf := hf2; clear hz2 hf2
  refine gv_do (.int .i64 v.er) hz hf rfl (by decide) rfl ?_ (fun a2 hz2 hf2 hd hs => ?_)
  · have ev8 := gv_ev f8; have k := KV0.out; unfold execOp; simp only [ev8]; go_simp
  replace f2 := (hs 2 (by decide)).trans f2
  replace f3 := (hs 3 (by decide)).trans f3
  clear f8
  have f9 := hd
  clear hz hf hd hs
  have hz := hz2; have hf := hf2; clear hz2 hf2
  refine gv_do (.pointer (some ⟨g2, 0, none⟩)) hz hf rfl (by decide) rfl ?_ (fun a3 hz2 hf2 hd hs => ?_)
  · have ev3 := gv_ev f3; unfold execOp; simp only [ev3]; go_simp
  replace f2 := (hs 2 (by decide)).trans f2
  replace f3 := (hs 3 (by decide)).trans f3
  replace f9 := (hs 9 (by decide)).trans f9
  have f10 := hd
  clear hz hf hd hs
  have hz := hz2; have hf := hf2; clear hz2 hf2
  refine gv_do (.int .i64 u.er) hz hf rfl (by decide) rfl ?_ (fun a4 hz2 hf2 hd hs => ?_)
  · have ev10 := gv_ev f10; have k := KU0.out; unfold execOp; simp only [ev10]; go_simp
  replace f2 := (hs 2 (by decide)).trans f2
  replace f3 := (hs 3 (by decide)).trans f3
  replace f9 := (hs 9 (by decide)).trans f9
  clear f10
  have f11 := hd
  clear hz hf hd hs
  have hz := hz2; have hf := hf2; clear hz2 hf2
  refine gv_do (.bool y0) hz hf rfl (by decide) rfl ?_ (fun a5 hz2 hf2 hd hs => ?_)
  · have ev9 := gv_ev f9; have ev11 := gv_ev f11; rw [← Y0.out]; unfold execOp; simp only [ev9, ev11]; go_simp
  replace f2 := (hs 2 (by decide)).trans f2
  replace f3 := (hs 3 (by decide)).trans f3
  clear f9 f11
  have f12 := hd
  clear hz hf hd hs
  have hz := hz2; have hf := hf2; clear hz2 hf2
  refine gv_do (.bool y0) hz hf rfl (by decide) rfl ?_ (fun a6 hz2 hf2 hd hs => ?_)
  · have ev12 := gv_ev f12; exact gx_move rfl ev12
  replace f2 := (hs 2 (by decide)).trans f2
  replace f3 := (hs 3 (by decide)).trans f3
  clear f12
  have f13 := hd
  clear hz hf hd hs
  have hz := hz2; have hf := hf2; clear hz2 hf2
  obtain ⟨G0, hG0⟩ : ∃ W : Bool, (true && (y0 == false)) = W := ⟨_, rfl⟩
  refine gv_if (p := true) (q := y0) (want := false) (W := G0) (.pointer (some ⟨g1, 1, none⟩)) hz hf rfl (by decide) rfl rfl (show a6.tmps[13]? = some (giv true (.bool y0)) from f13) hG0 (fun hW => ?_) (fun a7 hz2 hf2 hd hs => ?_)
  · have ev2 := gv_ev f2; unfold execOp; simp only [ev2]; go_simp
  replace f2 := (hs 2 (by decide)).trans f2
  replace f3 := (hs 3 (by decide)).trans f3
  replace f13 := (hs 13 (by decide)).trans f13
  have f14 := hd
  clear hz hf hd hs
  have hz := hz2; have hf := hf2; clear hz2 hf2
  refine gv_if (p := true) (q := y0) (want := false) (W := G0) (.int .u64 v.nu) hz hf rfl (by decide) rfl rfl (show a7.tmps[13]? = some (giv true (.bool y0)) from f13) hG0 (fun hW => ?_) (fun a8 hz2 hf2 hd hs => ?_)
  · have ev14 : a7.eval (.tmp 14) = .pointer (some ⟨g1, 1, none⟩) := (gv_ev f14).trans (by rw [show G0 = true from hW]; rfl); have k := KV1.out; unfold execOp; simp only [ev14]; go_simp
  replace f2 := (hs 2 (by decide)).trans f2
  replace f3 := (hs 3 (by decide)).trans f3
  replace f13 := (hs 13 (by decide)).trans f13
  clear f14
  have f15 := hd
  clear hz hf hd hs
  have hz := hz2; have hf := hf2; clear hz2 hf2
  refine gv_if (p := true) (q := y0) (want := false) (W := G0) (.pointer (some ⟨g2, 1, none⟩)) hz hf rfl (by decide) rfl rfl (show a8.tmps[13]? = some (giv true (.bool y0)) from f13) hG0 (fun hW => ?_) (fun a9 hz2 hf2 hd hs => ?_)
  · have ev3 := gv_ev f3; unfold execOp; simp only [ev3]; go_simp
  replace f2 := (hs 2 (by decide)).trans f2
  replace f3 := (hs 3 (by decide)).trans f3
  replace f13 := (hs 13 (by decide)).trans f13
  replace f15 := (hs 15 (by decide)).trans f15
  have f16 := hd
  clear hz hf hd hs
  have hz := hz2; have hf := hf2; clear hz2 hf2
  refine gv_if (p := true) (q := y0) (want := false) (W := G0) (.int .u64 u.nu) hz hf rfl (by decide) rfl rfl (show a9.tmps[13]? = some (giv true (.bool y0)) from f13) hG0 (fun hW => ?_) (fun a10 hz2 hf2 hd hs => ?_)
  · have ev16 : a9.eval (.tmp 16) = .pointer (some ⟨g2, 1, none⟩) := (gv_ev f16).trans (by rw [show G0 = true from hW]; rfl); have k := KU1.out; unfold execOp; simp only [ev16]; go_simp
  replace f2 := (hs 2 (by decide)).trans f2
  replace f3 := (hs 3 (by decide)).trans f3
  replace f13 := (hs 13 (by decide)).trans f13
  replace f15 := (hs 15 (by decide)).trans f15
  clear f16
  have f17 := hd
  clear hz hf hd hs
  have hz := hz2; have hf := hf2; clear hz2 hf2
  refine gv_if (p := true) (q := y0) (want := false) (W := G0) (.bool y1) hz hf rfl (by decide) rfl rfl (show a10.tmps[13]? = some (giv true (.bool y0)) from f13) hG0 (fun hW => ?_) (fun a11 hz2 hf2 hd hs => ?_)
  · have ev15 : a10.eval (.tmp 15) = .int .u64 v.nu := (gv_ev f15).trans (by rw [show G0 = true from hW]; rfl); have ev17 : a10.eval (.tmp 17) = .int .u64 u.nu := (gv_ev f17).trans (by rw [show G0 = true from hW]; rfl); rw [← Y1.out]; unfold execOp; simp only [ev15, ev17]; go_simp
  replace f2 := (hs 2 (by decide)).trans f2
  replace f3 := (hs 3 (by decide)).trans f3
  replace f13 := (hs 13 (by decide)).trans f13
  clear f15 f17
  have f18 := hd
  clear hz hf hd hs
  have hz := hz2; have hf := hf2; clear hz2 hf2
  refine gv_do (.bool (y0 || y1)) hz hf rfl (by decide) rfl ?_ (fun a12 hz2 hf2 hd hs => ?_)
  · have ev13 := gv_ev f13; exact gx_pickor rfl ev13 f18 hG0
  replace f2 := (hs 2 (by decide)).trans f2
  replace f3 := (hs 3 (by decide)).trans f3
  clear f13 f18
  have f19 := hd
  clear hz hf hd hs
  have hz := hz2; have hf := hf2; clear hz2 hf2
  obtain ⟨r19, h_r19⟩ : ∃ b : Bool, (y0 || y1) = b := ⟨_, rfl⟩
  rw [h_r19] at f19
  refine gv_do (.bool r19) hz hf rfl (by decide) rfl ?_ (fun a13 hz2 hf2 hd hs => ?_)
  · have ev19 := gv_ev f19; exact gx_move rfl ev19
  replace f2 := (hs 2 (by decide)).trans f2
  replace f3 := (hs 3 (by decide)).trans f3
  clear f19
  have f20 := hd
  clear hz hf hd hs
  have hz := hz2; have hf := hf2; clear hz2 hf2
  obtain ⟨G1, hG1⟩ : ∃ W : Bool, (true && (r19 == false)) = W := ⟨_, rfl⟩
  refine gv_if (p := true) (q := r19) (want := false) (W := G1) (.pointer (some ⟨g1, 2, none⟩)) hz hf rfl (by decide) rfl rfl (show a13.tmps[20]? = some (giv true (.bool r19)) from f20) hG1 (fun hW => ?_) (fun a14 hz2 hf2 hd hs => ?_)
  · have ev2 := gv_ev f2; unfold execOp; simp only [ev2]; go_simp
  replace f2 := (hs 2 (by decide)).trans f2
  replace f3 := (hs 3 (by decide)).trans f3
  replace f20 := (hs 20 (by decide)).trans f20
  have f21 := hd
  clear hz hf hd hs
  have hz := hz2; have hf := hf2; clear hz2 hf2
  refine gv_if (p := true) (q := r19) (want := false) (W := G1) (.int .i64 v.fi) hz hf rfl (by decide) rfl rfl (show a14.tmps[20]? = some (giv true (.bool r19)) from f20) hG1 (fun hW => ?_) (fun a15 hz2 hf2 hd hs => ?_)
  · have ev21 : a14.eval (.tmp 21) = .pointer (some ⟨g1, 2, none⟩) := (gv_ev f21).trans (by rw [show G1 = true from hW]; rfl); have k := KV2.out; unfold execOp; simp only [ev21]; go_simp
  replace f2 := (hs 2 (by decide)).trans f2
  replace f3 := (hs 3 (by decide)).trans f3
  replace f20 := (hs 20 (by decide)).trans f20
  clear f21
  have f22 := hd
  clear hz hf hd hs
  have hz := hz2; have hf := hf2; clear hz2 hf2
  refine gv_if (p := true) (q := r19) (want := false) (W := G1) (.pointer (some ⟨g2, 2, none⟩)) hz hf rfl (by decide) rfl rfl (show a15.tmps[20]? = some (giv true (.bool r19)) from f20) hG1 (fun hW => ?_) (fun a16 hz2 hf2 hd hs => ?_)
  · have ev3 := gv_ev f3; unfold execOp; simp only [ev3]; go_simp
  replace f2 := (hs 2 (by decide)).trans f2
  replace f3 := (hs 3 (by decide)).trans f3
  replace f20 := (hs 20 (by decide)).trans f20
  replace f22 := (hs 22 (by decide)).trans f22
  have f23 := hd
  clear hz hf hd hs
  have hz := hz2; have hf := hf2; clear hz2 hf2
  refine gv_if (p := true) (q := r19) (want := false) (W := G1) (.int .i64 u.fi) hz hf rfl (by decide) rfl rfl (show a16.tmps[20]? = some (giv true (.bool r19)) from f20) hG1 (fun hW => ?_) (fun a17 hz2 hf2 hd hs => ?_)
  · have ev23 : a16.eval (.tmp 23) = .pointer (some ⟨g2, 2, none⟩) := (gv_ev f23).trans (by rw [show G1 = true from hW]; rfl); have k := KU2.out; unfold execOp; simp only [ev23]; go_simp
  replace f2 := (hs 2 (by decide)).trans f2
  replace f3 := (hs 3 (by decide)).trans f3
  replace f20 := (hs 20 (by decide)).trans f20
  replace f22 := (hs 22 (by decide)).trans f22
  clear f23
  have f24 := hd
  clear hz hf hd hs
  have hz := hz2; have hf := hf2; clear hz2 hf2
  refine gv_if (p := true) (q := r19) (want := false) (W := G1) (.bool y2) hz hf rfl (by decide) rfl rfl (show a17.tmps[20]? = some (giv true (.bool r19)) from f20) hG1 (fun hW => ?_) (fun a18 hz2 hf2 hd hs => ?_)
  · have ev22 : a17.eval (.tmp 22) = .int .i64 v.fi := (gv_ev f22).trans (by rw [show G1 = true from hW]; rfl); have ev24 : a17.eval (.tmp 24) = .int .i64 u.fi := (gv_ev f24).trans (by rw [show G1 = true from hW]; rfl); rw [← Y2.out]; unfold execOp; simp only [ev22, ev24]; go_simp
  replace f2 := (hs 2 (by decide)).trans f2
  replace f3 := (hs 3 (by decide)).trans f3
  replace f20 := (hs 20 (by decide)).trans f20
  clear f22 f24
  have f25 := hd
  clear hz hf hd hs
  have hz := hz2; have hf := hf2; clear hz2 hf2
  refine gv_do (.bool (r19 || y2)) hz hf rfl (by decide) rfl ?_ (fun a19 hz2 hf2 hd hs => ?_)
  · have ev20 := gv_ev f20; exact gx_pickor rfl ev20 f25 hG1
  replace f2 := (hs 2 (by decide)).trans f2
  replace f3 := (hs 3 (by decide)).trans f3
  clear f20 f25
  have f26 := hd
  clear hz hf hd hs
  have hz := hz2; have hf := hf2; clear hz2 hf2
  obtain ⟨r26, h_r26⟩ : ∃ b : Bool, (r19 || y2) = b := ⟨_, rfl⟩
  rw [h_r26] at f26
  refine gv_do (.bool r26) hz hf rfl (by decide) rfl ?_ (fun a20 hz2 hf2 hd hs => ?_)
  · have ev26 := gv_ev f26; exact gx_move rfl ev26
  replace f2 := (hs 2 (by decide)).trans f2
  replace f3 := (hs 3 (by decide)).trans f3
  clear f26
  have f27 := hd
  clear hz hf hd hs
  have hz := hz2; have hf := hf2; clear hz2 hf2
  obtain ⟨G2, hG2⟩ : ∃ W : Bool, (true && (r26 == false)) = W := ⟨_, rfl⟩
  refine gv_if (p := true) (q := r26) (want := false) (W := G2) (.pointer (some ⟨g1, 3, none⟩)) hz hf rfl (by decide) rfl rfl (show a20.tmps[27]? = some (giv true (.bool r26)) from f27) hG2 (fun hW => ?_) (fun a21 hz2 hf2 hd hs => ?_)
  · have ev2 := gv_ev f2; unfold execOp; simp only [ev2]; go_simp
  replace f2 := (hs 2 (by decide)).trans f2
  replace f3 := (hs 3 (by decide)).trans f3
  replace f27 := (hs 27 (by decide)).trans f27
  have f28 := hd
  clear hz hf hd hs
  have hz := hz2; have hf := hf2; clear hz2 hf2
  refine gv_if (p := true) (q := r26) (want := false) (W := G2) (.int .i64 v.le) hz hf rfl (by decide) rfl rfl (show a21.tmps[27]? = some (giv true (.bool r26)) from f27) hG2 (fun hW => ?_) (fun a22 hz2 hf2 hd hs => ?_)
  · have ev28 : a21.eval (.tmp 28) = .pointer (some ⟨g1, 3, none⟩) := (gv_ev f28).trans (by rw [show G2 = true from hW]; rfl); have k := KV3.out; unfold execOp; simp only [ev28]; go_simp
  replace f2 := (hs 2 (by decide)).trans f2
  replace f3 := (hs 3 (by decide)).trans f3
  replace f27 := (hs 27 (by decide)).trans f27
  clear f28
  have f29 := hd
  clear hz hf hd hs
  have hz := hz2; have hf := hf2; clear hz2 hf2
  refine gv_if (p := true) (q := r26) (want := false) (W := G2) (.pointer (some ⟨g2, 3, none⟩)) hz hf rfl (by decide) rfl rfl (show a22.tmps[27]? = some (giv true (.bool r26)) from f27) hG2 (fun hW => ?_) (fun a23 hz2 hf2 hd hs => ?_)
  · have ev3 := gv_ev f3; unfold execOp; simp only [ev3]; go_simp
  replace f2 := (hs 2 (by decide)).trans f2
  replace f3 := (hs 3 (by decide)).trans f3
  replace f27 := (hs 27 (by decide)).trans f27
  replace f29 := (hs 29 (by decide)).trans f29
  have f30 := hd
  clear hz hf hd hs
  have hz := hz2; have hf := hf2; clear hz2 hf2
  refine gv_if (p := true) (q := r26) (want := false) (W := G2) (.int .i64 u.le) hz hf rfl (by decide) rfl rfl (show a23.tmps[27]? = some (giv true (.bool r26)) from f27) hG2 (fun hW => ?_) (fun a24 hz2 hf2 hd hs => ?_)
  · have ev30 : a23.eval (.tmp 30) = .pointer (some ⟨g2, 3, none⟩) := (gv_ev f30).trans (by rw [show G2 = true from hW]; rfl); have k := KU3.out; unfold execOp; simp only [ev30]; go_simp
  replace f2 := (hs 2 (by decide)).trans f2
  replace f3 := (hs 3 (by decide)).trans f3
  replace f27 := (hs 27 (by decide)).trans f27
  replace f29 := (hs 29 (by decide)).trans f29
  clear f30
  have f31 := hd
  clear hz hf hd hs
  have hz := hz2; have hf := hf2; clear hz2 hf2
  refine gv_if (p := true) (q := r26) (want := false) (W := G2) (.bool y3) hz hf rfl (by decide) rfl rfl (show a24.tmps[27]? = some (giv true (.bool r26)) from f27) hG2 (fun hW => ?_) (fun a25 hz2 hf2 hd hs => ?_)
  · have ev29 : a24.eval (.tmp 29) = .int .i64 v.le := (gv_ev f29).trans (by rw [show G2 = true from hW]; rfl); have ev31 : a24.eval (.tmp 31) = .int .i64 u.le := (gv_ev f31).trans (by rw [show G2 = true from hW]; rfl); rw [← Y3.out]; unfold execOp; simp only [ev29, ev31]; go_simp
  replace f2 := (hs 2 (by decide)).trans f2
  replace f3 := (hs 3 (by decide)).trans f3
  replace f27 := (hs 27 (by decide)).trans f27
  clear f29 f31
  have f32 := hd
  clear hz hf hd hs
  have hz := hz2; have hf := hf2; clear hz2 hf2
  refine gv_do (.bool (r26 || y3)) hz hf rfl (by decide) rfl ?_ (fun a26 hz2 hf2 hd hs => ?_)
  · have ev27 := gv_ev f27; exact gx_pickor rfl ev27 f32 hG2
  replace f2 := (hs 2 (by decide)).trans f2
  replace f3 := (hs 3 (by decide)).trans f3
  clear f27 f32
  have f33 := hd
  clear hz hf hd hs
  have hz := hz2; have hf := hf2; clear hz2 hf2
  obtain ⟨r33, h_r33⟩ : ∃ b : Bool, (r26 || y3) = b := ⟨_, rfl⟩
  rw [h_r33] at f33
  refine gv_do (.bool r33) hz hf rfl (by decide) rfl ?_ (fun a27 hz2 hf2 hd hs => ?_)
  · have ev33 := gv_ev f33; exact gx_move rfl ev33
  replace f2 := (hs 2 (by decide)).trans f2
  replace f3 := (hs 3 (by decide)).trans f3
  clear f33
  have f34 := hd
  clear hz hf hd hs
  have hz := hz2; have hf := hf2; clear hz2 hf2
  obtain ⟨G3, hG3⟩ : ∃ W : Bool, (true && (r33 == false)) = W := ⟨_, rfl⟩
  refine gv_if (p := true) (q := r33) (want := false) (W := G3) (.pointer (some ⟨g1, 4, none⟩)) hz hf rfl (by decide) rfl rfl (show a27.tmps[34]? = some (giv true (.bool r33)) from f34) hG3 (fun hW => ?_) (fun a28 hz2 hf2 hd hs => ?_)
  · have ev2 := gv_ev f2; unfold execOp; simp only [ev2]; go_simp
  replace f2 := (hs 2 (by decide)).trans f2
  replace f3 := (hs 3 (by decide)).trans f3
  replace f34 := (hs 34 (by decide)).trans f34
  have f35 := hd
  clear hz hf hd hs
  have hz := hz2; have hf := hf2; clear hz2 hf2
  refine gv_if (p := true) (q := r33) (want := false) (W := G3) (.slice v.tA v.tl v.tc) hz hf rfl (by decide) rfl rfl (show a28.tmps[34]? = some (giv true (.bool r33)) from f34) hG3 (fun hW => ?_) (fun a29 hz2 hf2 hd hs => ?_)
  · have ev35 : a28.eval (.tmp 35) = .pointer (some ⟨g1, 4, none⟩) := (gv_ev f35).trans (by rw [show G3 = true from hW]; rfl); have k := KV4.out; unfold execOp; simp only [ev35]; go_simp
  replace f2 := (hs 2 (by decide)).trans f2
  replace f3 := (hs 3 (by decide)).trans f3
  replace f34 := (hs 34 (by decide)).trans f34
  clear f35
  have f36 := hd
  clear hz hf hd hs
  have hz := hz2; have hf := hf2; clear hz2 hf2
  refine gv_if (p := true) (q := r33) (want := false) (W := G3) (.int .i64 (v.tl : Int)) hz hf rfl (by decide) rfl rfl (show a29.tmps[34]? = some (giv true (.bool r33)) from f34) hG3 (fun hW => ?_) (fun a30 hz2 hf2 hd hs => ?_)
  · have ev36 : a29.eval (.tmp 36) = .slice v.tA v.tl v.tc := (gv_ev f36).trans (by rw [show G3 = true from hW]; rfl); exact gx_len Tryz.underlying36 rfl ev36
  replace f2 := (hs 2 (by decide)).trans f2
  replace f3 := (hs 3 (by decide)).trans f3
  replace f34 := (hs 34 (by decide)).trans f34
  clear f36
  have f37 := hd
  clear hz hf hd hs
  have hz := hz2; have hf := hf2; clear hz2 hf2
  refine gv_if (p := true) (q := r33) (want := false) (W := G3) (.pointer (some ⟨g2, 4, none⟩)) hz hf rfl (by decide) rfl rfl (show a30.tmps[34]? = some (giv true (.bool r33)) from f34) hG3 (fun hW => ?_) (fun a31 hz2 hf2 hd hs => ?_)
  · have ev3 := gv_ev f3; unfold execOp; simp only [ev3]; go_simp
  replace f2 := (hs 2 (by decide)).trans f2
  replace f3 := (hs 3 (by decide)).trans f3
  replace f34 := (hs 34 (by decide)).trans f34
  replace f37 := (hs 37 (by decide)).trans f37
  have f38 := hd
  clear hz hf hd hs
  have hz := hz2; have hf := hf2; clear hz2 hf2
  refine gv_if (p := true) (q := r33) (want := false) (W := G3) (.slice u.tA u.tl u.tc) hz hf rfl (by decide) rfl rfl (show a31.tmps[34]? = some (giv true (.bool r33)) from f34) hG3 (fun hW => ?_) (fun a32 hz2 hf2 hd hs => ?_)
  · have ev38 : a31.eval (.tmp 38) = .pointer (some ⟨g2, 4, none⟩) := (gv_ev f38).trans (by rw [show G3 = true from hW]; rfl); have k := KU4.out; unfold execOp; simp only [ev38]; go_simp
  replace f2 := (hs 2 (by decide)).trans f2
  replace f3 := (hs 3 (by decide)).trans f3
  replace f34 := (hs 34 (by decide)).trans f34
  replace f37 := (hs 37 (by decide)).trans f37
  clear f38
  have f39 := hd
  clear hz hf hd hs
  have hz := hz2; have hf := hf2; clear hz2 hf2
  refine gv_if (p := true) (q := r33) (want := false) (W := G3) (.int .i64 (u.tl : Int)) hz hf rfl (by decide) rfl rfl (show a32.tmps[34]? = some (giv true (.bool r33)) from f34) hG3 (fun hW => ?_) (fun a33 hz2 hf2 hd hs => ?_)
  · have ev39 : a32.eval (.tmp 39) = .slice u.tA u.tl u.tc := (gv_ev f39).trans (by rw [show G3 = true from hW]; rfl); exact gx_len Tryz.underlying36 rfl ev39
  replace f2 := (hs 2 (by decide)).trans f2
  replace f3 := (hs 3 (by decide)).trans f3
  replace f34 := (hs 34 (by decide)).trans f34
  replace f37 := (hs 37 (by decide)).trans f37
  clear f39
  have f40 := hd
  clear hz hf hd hs
  have hz := hz2; have hf := hf2; clear hz2 hf2
  refine gv_if (p := true) (q := r33) (want := false) (W := G3) (.bool y4) hz hf rfl (by decide) rfl rfl (show a33.tmps[34]? = some (giv true (.bool r33)) from f34) hG3 (fun hW => ?_) (fun a34 hz2 hf2 hd hs => ?_)
  · have ev37 : a33.eval (.tmp 37) = .int .i64 (v.tl : Int) := (gv_ev f37).trans (by rw [show G3 = true from hW]; rfl); have ev40 : a33.eval (.tmp 40) = .int .i64 (u.tl : Int) := (gv_ev f40).trans (by rw [show G3 = true from hW]; rfl); rw [← Y4.out]; unfold execOp; simp only [ev37, ev40]; go_simp
  replace f2 := (hs 2 (by decide)).trans f2
  replace f3 := (hs 3 (by decide)).trans f3
  replace f34 := (hs 34 (by decide)).trans f34
  clear f37 f40
  have f41 := hd
  clear hz hf hd hs
  have hz := hz2; have hf := hf2; clear hz2 hf2
  refine gv_do (.bool (r33 || y4)) hz hf rfl (by decide) rfl ?_ (fun a35 hz2 hf2 hd hs => ?_)
  · have ev34 := gv_ev f34; exact gx_pickor rfl ev34 f41 hG3
  replace f2 := (hs 2 (by decide)).trans f2
  replace f3 := (hs 3 (by decide)).trans f3
  clear f34 f41
  have f42 := hd
  clear hz hf hd hs
  have hz := hz2; have hf := hf2; clear hz2 hf2
  obtain ⟨r42, h_r42⟩ : ∃ b : Bool, (r33 || y4) = b := ⟨_, rfl⟩
  rw [h_r42] at f42
  refine gv_do (.bool r42) hz hf rfl (by decide) rfl ?_ (fun a36 hz2 hf2 hd hs => ?_)
  · have ev42 := gv_ev f42; exact gx_move rfl ev42
  replace f2 := (hs 2 (by decide)).trans f2
  replace f3 := (hs 3 (by decide)).trans f3
  clear f42
  have f43 := hd
  clear hz hf hd hs
  have hz := hz2; have hf := hf2; clear hz2 hf2
  obtain ⟨G4, hG4⟩ : ∃ W : Bool, (true && (r42 == false)) = W := ⟨_, rfl⟩
  refine gv_if (p := true) (q := r42) (want := false) (W := G4) (.pointer (some ⟨g1, 5, none⟩)) hz hf rfl (by decide) rfl rfl (show a36.tmps[43]? = some (giv true (.bool r42)) from f43) hG4 (fun hW => ?_) (fun a37 hz2 hf2 hd hs => ?_)
  · have ev2 := gv_ev f2; unfold execOp; simp only [ev2]; go_simp
  replace f2 := (hs 2 (by decide)).trans f2
  replace f3 := (hs 3 (by decide)).trans f3
  replace f43 := (hs 43 (by decide)).trans f43
  have f44 := hd
  clear hz hf hd hs
  have hz := hz2; have hf := hf2; clear hz2 hf2
  refine gv_if (p := true) (q := r42) (want := false) (W := G4) (.slice v.gA v.gl v.gc) hz hf rfl (by decide) rfl rfl (show a37.tmps[43]? = some (giv true (.bool r42)) from f43) hG4 (fun hW => ?_) (fun a38 hz2 hf2 hd hs => ?_)
  · have ev44 : a37.eval (.tmp 44) = .pointer (some ⟨g1, 5, none⟩) := (gv_ev f44).trans (by rw [show G4 = true from hW]; rfl); have k := KV5.out; unfold execOp; simp only [ev44]; go_simp
  replace f2 := (hs 2 (by decide)).trans f2
  replace f3 := (hs 3 (by decide)).trans f3
  replace f43 := (hs 43 (by decide)).trans f43
  clear f44
  have f45 := hd
  clear hz hf hd hs
  have hz := hz2; have hf := hf2; clear hz2 hf2
  refine gv_if (p := true) (q := r42) (want := false) (W := G4) (.int .i64 (v.gl : Int)) hz hf rfl (by decide) rfl rfl (show a38.tmps[43]? = some (giv true (.bool r42)) from f43) hG4 (fun hW => ?_) (fun a39 hz2 hf2 hd hs => ?_)
  · have ev45 : a38.eval (.tmp 45) = .slice v.gA v.gl v.gc := (gv_ev f45).trans (by rw [show G4 = true from hW]; rfl); exact gx_len Tryz.underlying37 rfl ev45
  replace f2 := (hs 2 (by decide)).trans f2
  replace f3 := (hs 3 (by decide)).trans f3
  replace f43 := (hs 43 (by decide)).trans f43
  clear f45
  have f46 := hd
  clear hz hf hd hs
  have hz := hz2; have hf := hf2; clear hz2 hf2
  refine gv_if (p := true) (q := r42) (want := false) (W := G4) (.pointer (some ⟨g2, 5, none⟩)) hz hf rfl (by decide) rfl rfl (show a39.tmps[43]? = some (giv true (.bool r42)) from f43) hG4 (fun hW => ?_) (fun a40 hz2 hf2 hd hs => ?_)
  · have ev3 := gv_ev f3; unfold execOp; simp only [ev3]; go_simp
  replace f2 := (hs 2 (by decide)).trans f2
  replace f3 := (hs 3 (by decide)).trans f3
  replace f43 := (hs 43 (by decide)).trans f43
  replace f46 := (hs 46 (by decide)).trans f46
  have f47 := hd
  clear hz hf hd hs
  have hz := hz2; have hf := hf2; clear hz2 hf2
  refine gv_if (p := true) (q := r42) (want := false) (W := G4) (.slice u.gA u.gl u.gc) hz hf rfl (by decide) rfl rfl (show a40.tmps[43]? = some (giv true (.bool r42)) from f43) hG4 (fun hW => ?_) (fun a41 hz2 hf2 hd hs => ?_)
  · have ev47 : a40.eval (.tmp 47) = .pointer (some ⟨g2, 5, none⟩) := (gv_ev f47).trans (by rw [show G4 = true from hW]; rfl); have k := KU5.out; unfold execOp; simp only [ev47]; go_simp
  replace f2 := (hs 2 (by decide)).trans f2
  replace f3 := (hs 3 (by decide)).trans f3
  replace f43 := (hs 43 (by decide)).trans f43
  replace f46 := (hs 46 (by decide)).trans f46
  clear f47
  have f48 := hd
  clear hz hf hd hs
  have hz := hz2; have hf := hf2; clear hz2 hf2
  refine gv_if (p := true) (q := r42) (want := false) (W := G4) (.int .i64 (u.gl : Int)) hz hf rfl (by decide) rfl rfl (show a41.tmps[43]? = some (giv true (.bool r42)) from f43) hG4 (fun hW => ?_) (fun a42 hz2 hf2 hd hs => ?_)
  · have ev48 : a41.eval (.tmp 48) = .slice u.gA u.gl u.gc := (gv_ev f48).trans (by rw [show G4 = true from hW]; rfl); exact gx_len Tryz.underlying37 rfl ev48
  replace f2 := (hs 2 (by decide)).trans f2
  replace f3 := (hs 3 (by decide)).trans f3
  replace f43 := (hs 43 (by decide)).trans f43
  replace f46 := (hs 46 (by decide)).trans f46
  clear f48
  have f49 := hd
  clear hz hf hd hs
  have hz := hz2; have hf := hf2; clear hz2 hf2
  refine gv_if (p := true) (q := r42) (want := false) (W := G4) (.bool y5) hz hf rfl (by decide) rfl rfl (show a42.tmps[43]? = some (giv true (.bool r42)) from f43) hG4 (fun hW => ?_) (fun a43 hz2 hf2 hd hs => ?_)
  · have ev46 : a42.eval (.tmp 46) = .int .i64 (v.gl : Int) := (gv_ev f46).trans (by rw [show G4 = true from hW]; rfl); have ev49 : a42.eval (.tmp 49) = .int .i64 (u.gl : Int) := (gv_ev f49).trans (by rw [show G4 = true from hW]; rfl); rw [← Y5.out]; unfold execOp; simp only [ev46, ev49]; go_simp
  replace f2 := (hs 2 (by decide)).trans f2
  replace f3 := (hs 3 (by decide)).trans f3
  replace f43 := (hs 43 (by decide)).trans f43
  clear f46 f49
  have f50 := hd
  clear hz hf hd hs
  have hz := hz2; have hf := hf2; clear hz2 hf2
  refine gv_do (.bool (r42 || y5)) hz hf rfl (by decide) rfl ?_ (fun a44 hz2 hf2 hd hs => ?_)
  · have ev43 := gv_ev f43; exact gx_pickor rfl ev43 f50 hG4
  replace f2 := (hs 2 (by decide)).trans f2
  replace f3 := (hs 3 (by decide)).trans f3
  clear f43 f50
  have f51 := hd
  clear hz hf hd hs
  have hz := hz2; have hf := hf2; clear hz2 hf2
  obtain ⟨r51, h_r51⟩ : ∃ b : Bool, (r42 || y5) = b := ⟨_, rfl⟩
  rw [h_r51] at f51
  refine gv_do (.bool r51) hz hf rfl (by decide) rfl ?_ (fun a45 hz2 hf2 hd hs => ?_)
  · have ev51 := gv_ev f51; exact gx_move rfl ev51
  replace f2 := (hs 2 (by decide)).trans f2
  replace f3 := (hs 3 (by decide)).trans f3
  clear f51
  have f52 := hd
  clear hz hf hd hs
  have hz := hz2; have hf := hf2; clear hz2 hf2
  obtain ⟨G5, hG5⟩ : ∃ W : Bool, (true && (r51 == false)) = W := ⟨_, rfl⟩
  refine gv_if (p := true) (q := r51) (want := false) (W := G5) (.pointer (some ⟨g1, 6, none⟩)) hz hf rfl (by decide) rfl rfl (show a45.tmps[52]? = some (giv true (.bool r51)) from f52) hG5 (fun hW => ?_) (fun a46 hz2 hf2 hd hs => ?_)
  · have ev2 := gv_ev f2; unfold execOp; simp only [ev2]; go_simp
  replace f3 := (hs 3 (by decide)).trans f3
  replace f52 := (hs 52 (by decide)).trans f52
  clear f2
  have f53 := hd
  clear hz hf hd hs
  have hz := hz2; have hf := hf2; clear hz2 hf2
  refine gv_if (p := true) (q := r51) (want := false) (W := G5) (.slice v.aA v.al v.ac) hz hf rfl (by decide) rfl rfl (show a46.tmps[52]? = some (giv true (.bool r51)) from f52) hG5 (fun hW => ?_) (fun a47 hz2 hf2 hd hs => ?_)
  · have ev53 : a46.eval (.tmp 53) = .pointer (some ⟨g1, 6, none⟩) := (gv_ev f53).trans (by rw [show G5 = true from hW]; rfl); have k := KV6.out; unfold execOp; simp only [ev53]; go_simp
  replace f3 := (hs 3 (by decide)).trans f3
  replace f52 := (hs 52 (by decide)).trans f52
  clear f53
  have f54 := hd
  clear hz hf hd hs
  have hz := hz2; have hf := hf2; clear hz2 hf2
  refine gv_if (p := true) (q := r51) (want := false) (W := G5) (.int .i64 (v.al : Int)) hz hf rfl (by decide) rfl rfl (show a47.tmps[52]? = some (giv true (.bool r51)) from f52) hG5 (fun hW => ?_) (fun a48 hz2 hf2 hd hs => ?_)
  · have ev54 : a47.eval (.tmp 54) = .slice v.aA v.al v.ac := (gv_ev f54).trans (by rw [show G5 = true from hW]; rfl); exact gx_len Tryz.underlying38 rfl ev54
  replace f3 := (hs 3 (by decide)).trans f3
  replace f52 := (hs 52 (by decide)).trans f52
  clear f54
  have f55 := hd
  clear hz hf hd hs
  have hz := hz2; have hf := hf2; clear hz2 hf2
  refine gv_if (p := true) (q := r51) (want := false) (W := G5) (.pointer (some ⟨g2, 6, none⟩)) hz hf rfl (by decide) rfl rfl (show a48.tmps[52]? = some (giv true (.bool r51)) from f52) hG5 (fun hW => ?_) (fun a49 hz2 hf2 hd hs => ?_)
  · have ev3 := gv_ev f3; unfold execOp; simp only [ev3]; go_simp
  replace f52 := (hs 52 (by decide)).trans f52
  replace f55 := (hs 55 (by decide)).trans f55
  clear f3
  have f56 := hd
  clear hz hf hd hs
  have hz := hz2; have hf := hf2; clear hz2 hf2
  refine gv_if (p := true) (q := r51) (want := false) (W := G5) (.slice u.aA u.al u.ac) hz hf rfl (by decide) rfl rfl (show a49.tmps[52]? = some (giv true (.bool r51)) from f52) hG5 (fun hW => ?_) (fun a50 hz2 hf2 hd hs => ?_)
  · have ev56 : a49.eval (.tmp 56) = .pointer (some ⟨g2, 6, none⟩) := (gv_ev f56).trans (by rw [show G5 = true from hW]; rfl); have k := KU6.out; unfold execOp; simp only [ev56]; go_simp
  replace f52 := (hs 52 (by decide)).trans f52
  replace f55 := (hs 55 (by decide)).trans f55
  clear f56
  have f57 := hd
  clear hz hf hd hs
  have hz := hz2; have hf := hf2; clear hz2 hf2
  refine gv_if (p := true) (q := r51) (want := false) (W := G5) (.int .i64 (u.al : Int)) hz hf rfl (by decide) rfl rfl (show a50.tmps[52]? = some (giv true (.bool r51)) from f52) hG5 (fun hW => ?_) (fun a51 hz2 hf2 hd hs => ?_)
  · have ev57 : a50.eval (.tmp 57) = .slice u.aA u.al u.ac := (gv_ev f57).trans (by rw [show G5 = true from hW]; rfl); exact gx_len Tryz.underlying38 rfl ev57
  replace f52 := (hs 52 (by decide)).trans f52
  replace f55 := (hs 55 (by decide)).trans f55
  clear f57
  have f58 := hd
  clear hz hf hd hs
  have hz := hz2; have hf := hf2; clear hz2 hf2
  refine gv_if (p := true) (q := r51) (want := false) (W := G5) (.bool y6) hz hf rfl (by decide) rfl rfl (show a51.tmps[52]? = some (giv true (.bool r51)) from f52) hG5 (fun hW => ?_) (fun a52 hz2 hf2 hd hs => ?_)
  · have ev55 : a51.eval (.tmp 55) = .int .i64 (v.al : Int) := (gv_ev f55).trans (by rw [show G5 = true from hW]; rfl); have ev58 : a51.eval (.tmp 58) = .int .i64 (u.al : Int) := (gv_ev f58).trans (by rw [show G5 = true from hW]; rfl); rw [← Y6.out]; unfold execOp; simp only [ev55, ev58]; go_simp
  replace f52 := (hs 52 (by decide)).trans f52
  clear f55 f58
  have f59 := hd
  clear hz hf hd hs
  have hz := hz2; have hf := hf2; clear hz2 hf2
  refine gv_do (.bool (r51 || y6)) hz hf rfl (by decide) rfl ?_ (fun a53 hz2 hf2 hd hs => ?_)
  · have ev52 := gv_ev f52; exact gx_pickor rfl ev52 f59 hG5
  clear f52 f59
  have f60 := hd
  clear hz hf hd hs
  have hz := hz2; have hf := hf2; clear hz2 hf2
  obtain ⟨r60, h_r60⟩ : ∃ b : Bool, (r51 || y6) = b := ⟨_, rfl⟩
  rw [h_r60] at f60
  have BAD : r60 = true := by
    rw [← NE.out, h_r19, h_r26, h_r33, h_r42, h_r51, h_r60]
  subst BAD
  clear h_r19 h_r26 h_r33 h_r42 h_r51
  refine wpList_nil ?_
  iterate 2 first | go_values | go_skip | go_guarded | go_step | go_upon | go_back
  refine wp_cond_true (gv_ev f60) ?_
  iterate 10 (try (first | go_values | go_skip | go_guarded | go_step | go_upon | go_back))
  (try simp only [Exit.inBlock, Exit.then])
  refine bodyPost_ret (results_tmp rfl _ _ _) rfl ?_
  exact ⟨by simp [hz, Array.getD_eq_getD_getElem?], HG1.out ▸ B2.out⟩
set_option maxRecDepth 100000 in
set_option maxHeartbeats 64000000 in
theorem rsame15_good (v u : Rv) (r s : Rw) (w : World) (vo : v.ok) (vi : v.In w r) (ro : r.ok) (uo : u.ok) (ui : u.In w s) (so : s.ok) (heq : v.er = u.er ∧ v.nu = u.nu ∧ v.fi = u.fi ∧ v.le = u.le ∧ v.tl = u.tl ∧ v.gl = u.gl ∧ v.al = u.al) : Calls Tryz.prog 9 #[.agg (ERv.cells v).toArray, .agg (ERv.cells u).toArray] w fun e w' => e = .returned (.bool (eqRw r s)) ∧ Below w.heap.size w w' := by
  obtain ⟨W1, W2, h1, h2, x1, x2, b2⟩ := two_box15 v u w
  obtain ⟨g1, hg1⟩ : ∃ g, w.heap.size = g := ⟨_, rfl⟩
  obtain ⟨g2, hg2⟩ : ∃ g, W1.heap.size = g := ⟨_, rfl⟩
  rw [hg1] at x1
  rw [hg2] at x2
  obtain ⟨q0, q1, q2, q3, q4, q5, q6⟩ := heq
  have KV0 := Lib.hid fun (W : World) (q : Below W2.heap.size W2 W) => (show W.cell? ⟨g1, 0, none⟩ = some (.int .i64 v.er) from rv_c15 (gbx_below x1 q) rfl)
  have kV0 := KV0.out W2 (Below.refl _ _)
  have KV1 := Lib.hid fun (W : World) (q : Below W2.heap.size W2 W) => (show W.cell? ⟨g1, 1, none⟩ = some (.int .u64 v.nu) from rv_c15 (gbx_below x1 q) rfl)
  have kV1 := KV1.out W2 (Below.refl _ _)
  have KV2 := Lib.hid fun (W : World) (q : Below W2.heap.size W2 W) => (show W.cell? ⟨g1, 2, none⟩ = some (.int .i64 v.fi) from rv_c15 (gbx_below x1 q) rfl)
  have kV2 := KV2.out W2 (Below.refl _ _)
  have KV3 := Lib.hid fun (W : World) (q : Below W2.heap.size W2 W) => (show W.cell? ⟨g1, 3, none⟩ = some (.int .i64 v.le) from rv_c15 (gbx_below x1 q) rfl)
  have kV3 := KV3.out W2 (Below.refl _ _)
  have KV4 := Lib.hid fun (W : World) (q : Below W2.heap.size W2 W) => (show W.cell? ⟨g1, 4, none⟩ = some (.slice v.tA v.tl v.tc) from rv_c15 (gbx_below x1 q) rfl)
  have kV4 := KV4.out W2 (Below.refl _ _)
  have KV5 := Lib.hid fun (W : World) (q : Below W2.heap.size W2 W) => (show W.cell? ⟨g1, 5, none⟩ = some (.slice v.gA v.gl v.gc) from rv_c15 (gbx_below x1 q) rfl)
  have kV5 := KV5.out W2 (Below.refl _ _)
  have KV6 := Lib.hid fun (W : World) (q : Below W2.heap.size W2 W) => (show W.cell? ⟨g1, 6, none⟩ = some (.slice v.aA v.al v.ac) from rv_c15 (gbx_below x1 q) rfl)
  have kV6 := KV6.out W2 (Below.refl _ _)
  have KU0 := Lib.hid fun (W : World) (q : Below W2.heap.size W2 W) => (show W.cell? ⟨g2, 0, none⟩ = some (.int .i64 v.er) from by rw [q0]; exact rv_c15 (gbx_below x2 q) rfl)
  have kU0 := KU0.out W2 (Below.refl _ _)
  have KU1 := Lib.hid fun (W : World) (q : Below W2.heap.size W2 W) => (show W.cell? ⟨g2, 1, none⟩ = some (.int .u64 v.nu) from by rw [q1]; exact rv_c15 (gbx_below x2 q) rfl)
  have kU1 := KU1.out W2 (Below.refl _ _)
  have KU2 := Lib.hid fun (W : World) (q : Below W2.heap.size W2 W) => (show W.cell? ⟨g2, 2, none⟩ = some (.int .i64 v.fi) from by rw [q2]; exact rv_c15 (gbx_below x2 q) rfl)
  have kU2 := KU2.out W2 (Below.refl _ _)
  have KU3 := Lib.hid fun (W : World) (q : Below W2.heap.size W2 W) => (show W.cell? ⟨g2, 3, none⟩ = some (.int .i64 v.le) from by rw [q3]; exact rv_c15 (gbx_below x2 q) rfl)
  have kU3 := KU3.out W2 (Below.refl _ _)
  have KU4 := Lib.hid fun (W : World) (q : Below W2.heap.size W2 W) => (show W.cell? ⟨g2, 4, none⟩ = some (.slice u.tA v.tl u.tc) from by rw [q4]; exact rv_c15 (gbx_below x2 q) rfl)
  have kU4 := KU4.out W2 (Below.refl _ _)
  have KU5 := Lib.hid fun (W : World) (q : Below W2.heap.size W2 W) => (show W.cell? ⟨g2, 5, none⟩ = some (.slice u.gA v.gl u.gc) from by rw [q5]; exact rv_c15 (gbx_below x2 q) rfl)
  have kU5 := KU5.out W2 (Below.refl _ _)
  have KU6 := Lib.hid fun (W : World) (q : Below W2.heap.size W2 W) => (show W.cell? ⟨g2, 6, none⟩ = some (.slice u.aA v.al u.ac) from by rw [q6]; exact rv_c15 (gbx_below x2 q) rfl)
  have kU6 := KU6.out W2 (Below.refl _ _)
  have RVT := Lib.hid fun (W : World) (q : Below W2.heap.size W2 W) => (show ETw.Rd W v.tA v.tl r.tr from grd_below (grd_below vi.tr b2 (Nat.le_refl _)) q (Nat.le_refl _))
  have RUT := Lib.hid fun (W : World) (q : Below W2.heap.size W2 W) => (show ETw.Rd W u.tA v.tl s.tr from by rw [q4]; exact grd_below (grd_below ui.tr b2 (Nat.le_refl _)) q (Nat.le_refl _))
  have MLT := vo.tl
  have RVG := Lib.hid fun (W : World) (q : Below W2.heap.size W2 W) => (show E6w.Rd W v.gA v.gl r.go from grd_below (grd_below vi.go b2 (Nat.le_refl _)) q (Nat.le_refl _))
  have RUG := Lib.hid fun (W : World) (q : Below W2.heap.size W2 W) => (show E6w.Rd W u.gA v.gl s.go from by rw [q5]; exact grd_below (grd_below ui.go b2 (Nat.le_refl _)) q (Nat.le_refl _))
  have MLG := vo.gl
  have RVA := Lib.hid fun (W : World) (q : Below W2.heap.size W2 W) => (show E3w.Rd W v.aA v.al r.ac from grd_below (grd_below vi.ac b2 (Nat.le_refl _)) q (Nat.le_refl _))
  have RUA := Lib.hid fun (W : World) (q : Below W2.heap.size W2 W) => (show E3w.Rd W u.aA v.al s.ac from by rw [q6]; exact grd_below (grd_below ui.ac b2 (Nat.le_refl _)) q (Nat.le_refl _))
  have MLA := vo.al
  have NEQ : Hid (∀ c : r = s, eqRw r s = true) := Lib.hid fun c => eqRw_yes.2 c
  have DIF : Hid (∀ c : r ≠ s, eqRw r s = false) := Lib.hid fun c => eqRw_no15 c
  have SAM : Hid (r.tr = s.tr → r.go = s.go → r.ac = s.ac → r = s) := Lib.hid fun a b c => rw_eq15 (vi.er ▸ ui.er ▸ q0) (vi.nu ▸ ui.nu ▸ q1) (vi.fi ▸ ui.fi ▸ q2) (vi.le ▸ ui.le ▸ q3) a b c
  have OT := Lib.hid ro.tr
  have OT2 := Lib.hid so.tr
  have B2 := Lib.hid (show Below w.heap.size w W2 from b2)
  have HW1 := Lib.hid h1
  have HW2 := Lib.hid h2
  have HG1 := Lib.hid hg1
  have HG2 := Lib.hid hg2
  unfold maxLen at MLT MLG MLA
  clear h1 h2 x1 x2 b2 hg1 hg2 vo uo ro so vi ui q0 q1 q2 q3 q4 q5 q6
  go_enter Tryz.func9, Tryz.ntmps9
  go_wp2_with (first | (rw [HW1.out, HG1.out]) | (rw [HW2.out, HG2.out]))
  clear kV0 kV1 kV2 kV3 kV4 kV5 kV6 kU0 kU1 kU2 kU3 kU4 kU5 kU6
  go_loopw [5] (fun i wr => ∃ k : Nat, k ≤ v.tl ∧ i = .int .i64 k ∧ r.tr.take k = s.tr.take k ∧ Below W2.heap.size W2 wr) (fun i _ => v.tl - (intOf i).toNat)
  case atStart => exact ⟨0, Nat.zero_le _, rfl, rfl, Below.refl _ _⟩
  case round =>
    obtain ⟨k, hk, rfl, hp, hb⟩ := hrel
    have HP1 := Lib.hid hp
    have HB1 := Lib.hid hb
    have kv := KV4.out wr HB1.out
    clear hp hb
    by_cases hlt : k < v.tl
    case pos =>
      have hki : (k : Int) < (v.tl : Int) := by omega
      have hdk : decide ((k : Int) < (v.tl : Int)) = true := decide_eq_true hki
      obtain ⟨x, hx⟩ : ∃ x, r.tr[k]? = some x := ⟨r.tr[k]'(by have := (RVT.out wr HB1.out).1; omega), List.getElem?_eq_getElem _⟩
      obtain ⟨y, hy⟩ : ∃ x, s.tr[k]? = some x := ⟨s.tr[k]'(by have := (RUT.out wr HB1.out).1; omega), List.getElem?_eq_getElem _⟩
      obtain ⟨xb, xo, hxa, _⟩ := grd_rng (RVT.out wr HB1.out) hx
      obtain ⟨yb, yo, hya, _⟩ := grd_rng (RUT.out wr HB1.out) hy
      have RX := Lib.hid fun (U : World) (q : Below wr.heap.size wr U) => (show U.rangeAt xb (xo + k * 4) (ETw.cells x) from by obtain ⟨b, o, e, h⟩ := grd_rng (RVT.out U (HB1.out.trans (q.mono HB1.out.size))) hx; rw [hxa] at e; cases e; exact h)
      have RY := Lib.hid fun (U : World) (q : Below wr.heap.size wr U) => (show U.rangeAt yb (yo + k * 4) (ETw.cells y) from by obtain ⟨b, o, e, h⟩ := grd_rng (RUT.out U (HB1.out.trans (q.mono HB1.out.size))) hy; rw [hya] at e; cases e; exact h)
      have CX := Lib.hid fun (U : World) (q : Below wr.heap.size wr U) => (show U.cell? ⟨g1, 4, none⟩ = some (.slice (some ⟨xb, xo, none⟩) v.tl v.tc) from by rw [← hxa]; exact KV4.out U (HB1.out.trans (q.mono HB1.out.size)))
      have CY := Lib.hid fun (U : World) (q : Below wr.heap.size wr U) => (show U.cell? ⟨g2, 4, none⟩ = some (.slice (some ⟨yb, yo, none⟩) v.tl u.tc) from by rw [← hya]; exact KU4.out U (HB1.out.trans (q.mono HB1.out.size)))
      have HX := Lib.hid hx
      have HY := Lib.hid hy
      have OX := Lib.hid (OT.out x (List.mem_of_getElem? hx))
      have OY := Lib.hid (OT2.out y (List.mem_of_getElem? hy))
      clear hx hy hxa hya
      go_wp2_with fail
      clear kv
      refine wp_region_held_drew (S := fun U => Below wr.heap.size wr U) (by kernel_rfl) (Below.refl _ _).drew (fun hH => ?_)
      refine wpAnyH_take (i := 0) (v := .pointer (some ⟨g1, 4, none⟩)) rfl (by kernel_rfl) (by kernel_rfl) (by kernel_rfl) (fun _ _ _ h => h) (.inl ⟨by rfl, ?_⟩) (by assumption) ?_
      · intro W hW; go_simp
      try simp only [List.getElem_toArray, List.getElem_cons_zero, Act.put, List.setIfInBounds_toArray, List.set_cons_zero, List.set_cons_succ]
      refine wpAnyH_take (i := 1) (v := .slice (some ⟨xb, xo, none⟩) v.tl v.tc) rfl (by kernel_rfl) (by kernel_rfl) (by kernel_rfl) (fun _ _ _ h => h) (.inl ⟨by rfl, ?_⟩) (by assumption) ?_
      · intro W hW; have k0 := CX.out W hW; go_simp
      try simp only [List.getElem_toArray, List.getElem_cons_zero, List.getElem_cons_succ, Act.put, List.setIfInBounds_toArray, List.set_cons_zero, List.set_cons_succ]
      refine wpAnyH_take (i := 2) (v := .int .i64 k) rfl (by kernel_rfl) (by kernel_rfl) (by kernel_rfl) (fun _ _ _ h => h) (.inl ⟨by rfl, ?_⟩) (by assumption) ?_
      · intro W hW; go_simp
      try simp only [List.getElem_toArray, List.getElem_cons_zero, List.getElem_cons_succ, Act.put, List.setIfInBounds_toArray, List.set_cons_zero, List.set_cons_succ]
      refine wpAnyH_take (i := 5) (v := .pointer (some ⟨g2, 4, none⟩)) rfl (by kernel_rfl) (by kernel_rfl) (by kernel_rfl) (fun _ _ _ h => h) (.inl ⟨by rfl, ?_⟩) (by assumption) ?_
      · intro W hW; go_simp
      try simp only [List.getElem_toArray, List.getElem_cons_zero, List.getElem_cons_succ, Act.put, List.setIfInBounds_toArray, List.set_cons_zero, List.set_cons_succ]
      refine wpAnyH_take (i := 6) (v := .slice (some ⟨yb, yo, none⟩) v.tl u.tc) rfl (by kernel_rfl) (by kernel_rfl) (by kernel_rfl) (fun _ _ _ h => h) (.inl ⟨by rfl, ?_⟩) (by assumption) ?_
      · intro W hW; have k0 := CY.out W hW; go_simp
      try simp only [List.getElem_toArray, List.getElem_cons_zero, List.getElem_cons_succ, Act.put, List.setIfInBounds_toArray, List.set_cons_zero, List.set_cons_succ]
      refine wpAnyH_take (i := 7) (v := .int .i64 k) rfl (by kernel_rfl) (by kernel_rfl) (by kernel_rfl) (fun _ _ _ h => h) (.inl ⟨by rfl, ?_⟩) (by assumption) ?_
      · intro W hW; go_simp
      try simp only [List.getElem_toArray, List.getElem_cons_zero, List.getElem_cons_succ, Act.put, List.setIfInBounds_toArray, List.set_cons_zero, List.set_cons_succ]
      refine wpAnyH_take (i := 3) (v := .pointer (some ⟨xb, xo + k * 4, none⟩)) rfl (by kernel_rfl) (by kernel_rfl) (by kernel_rfl) (fun _ _ _ h => h) (.inl ⟨by rfl, ?_⟩) (by assumption) ?_
      · intro W hW; go_simp
      try simp only [List.getElem_toArray, List.getElem_cons_zero, List.getElem_cons_succ, Act.put, List.setIfInBounds_toArray, List.set_cons_zero, List.set_cons_succ]
      refine wpAnyH_take (i := 8) (v := .pointer (some ⟨yb, yo + k * 4, none⟩)) rfl (by kernel_rfl) (by kernel_rfl) (by kernel_rfl) (fun _ _ _ h => h) (.inl ⟨by rfl, ?_⟩) (by assumption) ?_
      · intro W hW; go_simp
      try simp only [List.getElem_toArray, List.getElem_cons_zero, List.getElem_cons_succ, Act.put, List.setIfInBounds_toArray, List.set_cons_zero, List.set_cons_succ]
      refine wpAnyH_take (i := 4) (v := .agg (ETw.cells x).toArray) rfl (by kernel_rfl) (by kernel_rfl) (by kernel_rfl) (fun _ _ _ h => h) (gyields_load TTw (by rfl) (.tmp 71) rfl xb (xo + k * 4) rfl (fun U hU => RX.out U hU)) (by assumption) ?_
      try simp only [List.getElem_toArray, List.getElem_cons_zero, List.getElem_cons_succ, Act.put, List.setIfInBounds_toArray, List.set_cons_zero, List.set_cons_succ]
      refine wpAnyH_take (i := 9) (v := .agg (ETw.cells y).toArray) rfl (by kernel_rfl) (by kernel_rfl) (by kernel_rfl) (fun _ _ _ h => h) (gyields_load TTw (by rfl) (.tmp 76) rfl yb (yo + k * 4) rfl (fun U hU => RY.out U hU)) (by assumption) ?_
      try simp only [List.getElem_toArray, List.getElem_cons_zero, List.getElem_cons_succ, Act.put, List.setIfInBounds_toArray, List.set_cons_zero, List.set_cons_succ]
      have HD := Lib.hid hH
      by_cases exy : x = y
      case pos =>
        subst exy
        refine wpAnyH_take (i := 10) (v := .bool (!eqTw x x)) rfl (by kernel_rfl) (by kernel_rfl) (by kernel_rfl) (fun _ _ _ h => h) (yields_neq_tw15 (by rfl) (.tmp 72) (.tmp 77) rfl OX.out OX.out rfl rfl) (by assumption) ?_
        try simp only [List.getElem_toArray, List.getElem_cons_zero, List.getElem_cons_succ, Act.put, List.setIfInBounds_toArray, List.set_cons_zero, List.set_cons_succ]
        rw [eqTw_yes]
        refine wpAnyH_done (by decide +kernel) ?_ _
        clear hH
        go_wp2_with fail
        go_roundw
        case rel => exact ⟨k + 1, hlt, by go_num, by rw [List.take_add_one, List.take_add_one, HX.out, HY.out, HP1.out], HB1.out.trans (HD.out.mono HB1.out.size)⟩
        case measure => simp [intOf]; omega
      case neg =>
        have EB := Lib.hid (DIF.out fun c => by subst c; have h1 := HX.out; rw [HY.out] at h1; exact exy (Option.some.inj h1).symm)
        refine wpAnyH_take (i := 10) (v := .bool (!eqTw x y)) rfl (by kernel_rfl) (by kernel_rfl) (by kernel_rfl) (fun _ _ _ h => h) (yields_neq_tw15 (by rfl) (.tmp 72) (.tmp 77) rfl OX.out OY.out rfl rfl) (by assumption) ?_
        try simp only [List.getElem_toArray, List.getElem_cons_zero, List.getElem_cons_succ, Act.put, List.setIfInBounds_toArray, List.set_cons_zero, List.set_cons_succ]
        rw [eqTw_no exy]
        refine wpAnyH_done (by decide +kernel) ?_ _
        clear hH
        go_wp2_with fail
        go_ret
        rw [EB.out]
        exact ⟨rfl, HG1.out ▸ B2.out.trans ((HB1.out.trans (HD.out.mono HB1.out.size)).mono B2.out.size)⟩
    case neg =>
      obtain rfl : k = v.tl := by omega
      have EQ1 : Hid (r.tr = s.tr) := Lib.hid (by have h1 := (RVT.out wr HB1.out).1; have h2 := (RUT.out wr HB1.out).1; have h3 := HP1.out; rwa [List.take_of_length_le (by omega), List.take_of_length_le (by omega)] at h3)
      go_wp2_with fail
      go_loopw [6] (fun i wr => ∃ k : Nat, k ≤ v.gl ∧ i = .int .i64 k ∧ r.go.take k = s.go.take k ∧ Below W2.heap.size W2 wr) (fun i _ => v.gl - (intOf i).toNat)
      case atStart => exact ⟨0, Nat.zero_le _, rfl, rfl, HB1.out⟩
      case round =>
        obtain ⟨k, hk, rfl, hp, hb⟩ := hrel
        have HP2 := Lib.hid hp
        have HB2 := Lib.hid hb
        have kv := KV5.out wr HB2.out
        clear hp hb
        by_cases hlt : k < v.gl
        case pos =>
          have hki : (k : Int) < (v.gl : Int) := by omega
          have hdk : decide ((k : Int) < (v.gl : Int)) = true := decide_eq_true hki
          obtain ⟨x, hx⟩ : ∃ x, r.go[k]? = some x := ⟨r.go[k]'(by have := (RVG.out wr HB2.out).1; omega), List.getElem?_eq_getElem _⟩
          obtain ⟨y, hy⟩ : ∃ x, s.go[k]? = some x := ⟨s.go[k]'(by have := (RUG.out wr HB2.out).1; omega), List.getElem?_eq_getElem _⟩
          obtain ⟨xb, xo, hxa, _⟩ := grd_rng (RVG.out wr HB2.out) hx
          obtain ⟨yb, yo, hya, _⟩ := grd_rng (RUG.out wr HB2.out) hy
          have RX := Lib.hid fun (U : World) (q : Below wr.heap.size wr U) => (show U.rangeAt xb (xo + k * 1) (E6w.cells x) from by obtain ⟨b, o, e, h⟩ := grd_rng (RVG.out U (HB2.out.trans (q.mono HB2.out.size))) hx; rw [hxa] at e; cases e; exact h)
          have RY := Lib.hid fun (U : World) (q : Below wr.heap.size wr U) => (show U.rangeAt yb (yo + k * 1) (E6w.cells y) from by obtain ⟨b, o, e, h⟩ := grd_rng (RUG.out U (HB2.out.trans (q.mono HB2.out.size))) hy; rw [hya] at e; cases e; exact h)
          have CX := Lib.hid fun (U : World) (q : Below wr.heap.size wr U) => (show U.cell? ⟨g1, 5, none⟩ = some (.slice (some ⟨xb, xo, none⟩) v.gl v.gc) from by rw [← hxa]; exact KV5.out U (HB2.out.trans (q.mono HB2.out.size)))
          have CY := Lib.hid fun (U : World) (q : Below wr.heap.size wr U) => (show U.cell? ⟨g2, 5, none⟩ = some (.slice (some ⟨yb, yo, none⟩) v.gl u.gc) from by rw [← hya]; exact KU5.out U (HB2.out.trans (q.mono HB2.out.size)))
          have HX := Lib.hid hx
          have HY := Lib.hid hy
          clear hx hy hxa hya
          go_wp2_with fail
          clear kv
          refine wp_region_held_drew (S := fun U => Below wr.heap.size wr U) (by kernel_rfl) (Below.refl _ _).drew (fun hH => ?_)
          refine wpAnyH_take (i := 0) (v := .pointer (some ⟨g1, 5, none⟩)) rfl (by kernel_rfl) (by kernel_rfl) (by kernel_rfl) (fun _ _ _ h => h) (.inl ⟨by rfl, ?_⟩) (by assumption) ?_
          · intro W hW; go_simp
          try simp only [List.getElem_toArray, List.getElem_cons_zero, Act.put, List.setIfInBounds_toArray, List.set_cons_zero, List.set_cons_succ]
          refine wpAnyH_take (i := 1) (v := .slice (some ⟨xb, xo, none⟩) v.gl v.gc) rfl (by kernel_rfl) (by kernel_rfl) (by kernel_rfl) (fun _ _ _ h => h) (.inl ⟨by rfl, ?_⟩) (by assumption) ?_
          · intro W hW; have k0 := CX.out W hW; go_simp
          try simp only [List.getElem_toArray, List.getElem_cons_zero, List.getElem_cons_succ, Act.put, List.setIfInBounds_toArray, List.set_cons_zero, List.set_cons_succ]
          refine wpAnyH_take (i := 2) (v := .int .i64 k) rfl (by kernel_rfl) (by kernel_rfl) (by kernel_rfl) (fun _ _ _ h => h) (.inl ⟨by rfl, ?_⟩) (by assumption) ?_
          · intro W hW; go_simp
          try simp only [List.getElem_toArray, List.getElem_cons_zero, List.getElem_cons_succ, Act.put, List.setIfInBounds_toArray, List.set_cons_zero, List.set_cons_succ]
          refine wpAnyH_take (i := 5) (v := .pointer (some ⟨g2, 5, none⟩)) rfl (by kernel_rfl) (by kernel_rfl) (by kernel_rfl) (fun _ _ _ h => h) (.inl ⟨by rfl, ?_⟩) (by assumption) ?_
          · intro W hW; go_simp
          try simp only [List.getElem_toArray, List.getElem_cons_zero, List.getElem_cons_succ, Act.put, List.setIfInBounds_toArray, List.set_cons_zero, List.set_cons_succ]
          refine wpAnyH_take (i := 6) (v := .slice (some ⟨yb, yo, none⟩) v.gl u.gc) rfl (by kernel_rfl) (by kernel_rfl) (by kernel_rfl) (fun _ _ _ h => h) (.inl ⟨by rfl, ?_⟩) (by assumption) ?_
          · intro W hW; have k0 := CY.out W hW; go_simp
          try simp only [List.getElem_toArray, List.getElem_cons_zero, List.getElem_cons_succ, Act.put, List.setIfInBounds_toArray, List.set_cons_zero, List.set_cons_succ]
          refine wpAnyH_take (i := 7) (v := .int .i64 k) rfl (by kernel_rfl) (by kernel_rfl) (by kernel_rfl) (fun _ _ _ h => h) (.inl ⟨by rfl, ?_⟩) (by assumption) ?_
          · intro W hW; go_simp
          try simp only [List.getElem_toArray, List.getElem_cons_zero, List.getElem_cons_succ, Act.put, List.setIfInBounds_toArray, List.set_cons_zero, List.set_cons_succ]
          refine wpAnyH_take (i := 3) (v := .pointer (some ⟨xb, xo + k, none⟩)) rfl (by kernel_rfl) (by kernel_rfl) (by kernel_rfl) (fun _ _ _ h => h) (.inl ⟨by rfl, ?_⟩) (by assumption) ?_
          · intro W hW; go_simp
          try simp only [List.getElem_toArray, List.getElem_cons_zero, List.getElem_cons_succ, Act.put, List.setIfInBounds_toArray, List.set_cons_zero, List.set_cons_succ]
          refine wpAnyH_take (i := 8) (v := .pointer (some ⟨yb, yo + k, none⟩)) rfl (by kernel_rfl) (by kernel_rfl) (by kernel_rfl) (fun _ _ _ h => h) (.inl ⟨by rfl, ?_⟩) (by assumption) ?_
          · intro W hW; go_simp
          try simp only [List.getElem_toArray, List.getElem_cons_zero, List.getElem_cons_succ, Act.put, List.setIfInBounds_toArray, List.set_cons_zero, List.set_cons_succ]
          refine wpAnyH_take (i := 4) (v := .int .u64 x) rfl (by kernel_rfl) (by kernel_rfl) (by kernel_rfl) (fun _ _ _ h => h) (.inl ⟨by rfl, ?_⟩) (by assumption) ?_
          · intro W hW
            have k0 : W.cell? ⟨xb, xo + k, none⟩ = some (.int .u64 x) := by have h := RX.out W hW 0 _ rfl; rw [Nat.mul_one, Nat.add_zero] at h; exact h
            go_simp
          try simp only [List.getElem_toArray, List.getElem_cons_zero, List.getElem_cons_succ, Act.put, List.setIfInBounds_toArray, List.set_cons_zero, List.set_cons_succ]
          refine wpAnyH_take (i := 9) (v := .int .u64 y) rfl (by kernel_rfl) (by kernel_rfl) (by kernel_rfl) (fun _ _ _ h => h) (.inl ⟨by rfl, ?_⟩) (by assumption) ?_
          · intro W hW
            have k0 : W.cell? ⟨yb, yo + k, none⟩ = some (.int .u64 y) := by have h := RY.out W hW 0 _ rfl; rw [Nat.mul_one, Nat.add_zero] at h; exact h
            go_simp
          try simp only [List.getElem_toArray, List.getElem_cons_zero, List.getElem_cons_succ, Act.put, List.setIfInBounds_toArray, List.set_cons_zero, List.set_cons_succ]
          have HD := Lib.hid hH
          by_cases exy : x = y
          case pos =>
            subst exy
            have e_xy : (x != x) = false := by simp
            refine wpAnyH_take (i := 10) (v := .bool (false)) rfl (by kernel_rfl) (by kernel_rfl) (by kernel_rfl) (fun _ _ _ h => h) (.inl ⟨by rfl, ?_⟩) (by assumption) ?_
            · intro W hW; go_simp
            try simp only [List.getElem_toArray, List.getElem_cons_zero, List.getElem_cons_succ, Act.put, List.setIfInBounds_toArray, List.set_cons_zero, List.set_cons_succ]
            refine wpAnyH_done (by decide +kernel) ?_ _
            clear hH
            go_wp2_with fail
            go_roundw
            case rel => exact ⟨k + 1, hlt, by go_num, by rw [List.take_add_one, List.take_add_one, HX.out, HY.out, HP2.out], HB2.out.trans (HD.out.mono HB2.out.size)⟩
            case measure => simp [intOf]; omega
          case neg =>
            have EB := Lib.hid (DIF.out fun c => by subst c; have h1 := HX.out; rw [HY.out] at h1; exact exy (Option.some.inj h1).symm)
            have e_xy : (x != y) = true := by simp [exy]
            refine wpAnyH_take (i := 10) (v := .bool (true)) rfl (by kernel_rfl) (by kernel_rfl) (by kernel_rfl) (fun _ _ _ h => h) (.inl ⟨by rfl, ?_⟩) (by assumption) ?_
            · intro W hW; go_simp
            try simp only [List.getElem_toArray, List.getElem_cons_zero, List.getElem_cons_succ, Act.put, List.setIfInBounds_toArray, List.set_cons_zero, List.set_cons_succ]
            refine wpAnyH_done (by decide +kernel) ?_ _
            clear hH
            go_wp2_with fail
            go_ret
            rw [EB.out]
            exact ⟨rfl, HG1.out ▸ B2.out.trans ((HB2.out.trans (HD.out.mono HB2.out.size)).mono B2.out.size)⟩
        case neg =>
          obtain rfl : k = v.gl := by omega
          have EQ2 : Hid (r.go = s.go) := Lib.hid (by have h1 := (RVG.out wr HB2.out).1; have h2 := (RUG.out wr HB2.out).1; have h3 := HP2.out; rwa [List.take_of_length_le (by omega), List.take_of_length_le (by omega)] at h3)
          go_wp2_with fail
          go_loopw [7] (fun i wr => ∃ k : Nat, k ≤ v.al ∧ i = .int .i64 k ∧ r.ac.take k = s.ac.take k ∧ Below W2.heap.size W2 wr) (fun i _ => v.al - (intOf i).toNat)
          case atStart => exact ⟨0, Nat.zero_le _, rfl, rfl, HB2.out⟩
          case round =>
            obtain ⟨k, hk, rfl, hp, hb⟩ := hrel
            have HP3 := Lib.hid hp
            have HB3 := Lib.hid hb
            have kv := KV6.out wr HB3.out
            clear hp hb
            by_cases hlt : k < v.al
            case pos =>
              have hki : (k : Int) < (v.al : Int) := by omega
              have hdk : decide ((k : Int) < (v.al : Int)) = true := decide_eq_true hki
              obtain ⟨x, hx⟩ : ∃ x, r.ac[k]? = some x := ⟨r.ac[k]'(by have := (RVA.out wr HB3.out).1; omega), List.getElem?_eq_getElem _⟩
              obtain ⟨y, hy⟩ : ∃ x, s.ac[k]? = some x := ⟨s.ac[k]'(by have := (RUA.out wr HB3.out).1; omega), List.getElem?_eq_getElem _⟩
              obtain ⟨xb, xo, hxa, _⟩ := grd_rng (RVA.out wr HB3.out) hx
              obtain ⟨yb, yo, hya, _⟩ := grd_rng (RUA.out wr HB3.out) hy
              have RX := Lib.hid fun (U : World) (q : Below wr.heap.size wr U) => (show U.rangeAt xb (xo + k * 1) (E3w.cells x) from by obtain ⟨b, o, e, h⟩ := grd_rng (RVA.out U (HB3.out.trans (q.mono HB3.out.size))) hx; rw [hxa] at e; cases e; exact h)
              have RY := Lib.hid fun (U : World) (q : Below wr.heap.size wr U) => (show U.rangeAt yb (yo + k * 1) (E3w.cells y) from by obtain ⟨b, o, e, h⟩ := grd_rng (RUA.out U (HB3.out.trans (q.mono HB3.out.size))) hy; rw [hya] at e; cases e; exact h)
              have CX := Lib.hid fun (U : World) (q : Below wr.heap.size wr U) => (show U.cell? ⟨g1, 6, none⟩ = some (.slice (some ⟨xb, xo, none⟩) v.al v.ac) from by rw [← hxa]; exact KV6.out U (HB3.out.trans (q.mono HB3.out.size)))
              have CY := Lib.hid fun (U : World) (q : Below wr.heap.size wr U) => (show U.cell? ⟨g2, 6, none⟩ = some (.slice (some ⟨yb, yo, none⟩) v.al u.ac) from by rw [← hya]; exact KU6.out U (HB3.out.trans (q.mono HB3.out.size)))
              have HX := Lib.hid hx
              have HY := Lib.hid hy
              clear hx hy hxa hya
              go_wp2_with fail
              clear kv
              refine wp_region_held_drew (S := fun U => Below wr.heap.size wr U) (by kernel_rfl) (Below.refl _ _).drew (fun hH => ?_)
              refine wpAnyH_take (i := 0) (v := .pointer (some ⟨g1, 6, none⟩)) rfl (by kernel_rfl) (by kernel_rfl) (by kernel_rfl) (fun _ _ _ h => h) (.inl ⟨by rfl, ?_⟩) (by assumption) ?_
              · intro W hW; go_simp
              try simp only [List.getElem_toArray, List.getElem_cons_zero, Act.put, List.setIfInBounds_toArray, List.set_cons_zero, List.set_cons_succ]
              refine wpAnyH_take (i := 1) (v := .slice (some ⟨xb, xo, none⟩) v.al v.ac) rfl (by kernel_rfl) (by kernel_rfl) (by kernel_rfl) (fun _ _ _ h => h) (.inl ⟨by rfl, ?_⟩) (by assumption) ?_
              · intro W hW; have k0 := CX.out W hW; go_simp
              try simp only [List.getElem_toArray, List.getElem_cons_zero, List.getElem_cons_succ, Act.put, List.setIfInBounds_toArray, List.set_cons_zero, List.set_cons_succ]
              refine wpAnyH_take (i := 2) (v := .int .i64 k) rfl (by kernel_rfl) (by kernel_rfl) (by kernel_rfl) (fun _ _ _ h => h) (.inl ⟨by rfl, ?_⟩) (by assumption) ?_
              · intro W hW; go_simp
              try simp only [List.getElem_toArray, List.getElem_cons_zero, List.getElem_cons_succ, Act.put, List.setIfInBounds_toArray, List.set_cons_zero, List.set_cons_succ]
              refine wpAnyH_take (i := 5) (v := .pointer (some ⟨g2, 6, none⟩)) rfl (by kernel_rfl) (by kernel_rfl) (by kernel_rfl) (fun _ _ _ h => h) (.inl ⟨by rfl, ?_⟩) (by assumption) ?_
              · intro W hW; go_simp
              try simp only [List.getElem_toArray, List.getElem_cons_zero, List.getElem_cons_succ, Act.put, List.setIfInBounds_toArray, List.set_cons_zero, List.set_cons_succ]
              refine wpAnyH_take (i := 6) (v := .slice (some ⟨yb, yo, none⟩) v.al u.ac) rfl (by kernel_rfl) (by kernel_rfl) (by kernel_rfl) (fun _ _ _ h => h) (.inl ⟨by rfl, ?_⟩) (by assumption) ?_
              · intro W hW; have k0 := CY.out W hW; go_simp
              try simp only [List.getElem_toArray, List.getElem_cons_zero, List.getElem_cons_succ, Act.put, List.setIfInBounds_toArray, List.set_cons_zero, List.set_cons_succ]
              refine wpAnyH_take (i := 7) (v := .int .i64 k) rfl (by kernel_rfl) (by kernel_rfl) (by kernel_rfl) (fun _ _ _ h => h) (.inl ⟨by rfl, ?_⟩) (by assumption) ?_
              · intro W hW; go_simp
              try simp only [List.getElem_toArray, List.getElem_cons_zero, List.getElem_cons_succ, Act.put, List.setIfInBounds_toArray, List.set_cons_zero, List.set_cons_succ]
              refine wpAnyH_take (i := 3) (v := .pointer (some ⟨xb, xo + k, none⟩)) rfl (by kernel_rfl) (by kernel_rfl) (by kernel_rfl) (fun _ _ _ h => h) (.inl ⟨by rfl, ?_⟩) (by assumption) ?_
              · intro W hW; go_simp
              try simp only [List.getElem_toArray, List.getElem_cons_zero, List.getElem_cons_succ, Act.put, List.setIfInBounds_toArray, List.set_cons_zero, List.set_cons_succ]
              refine wpAnyH_take (i := 8) (v := .pointer (some ⟨yb, yo + k, none⟩)) rfl (by kernel_rfl) (by kernel_rfl) (by kernel_rfl) (fun _ _ _ h => h) (.inl ⟨by rfl, ?_⟩) (by assumption) ?_
              · intro W hW; go_simp
              try simp only [List.getElem_toArray, List.getElem_cons_zero, List.getElem_cons_succ, Act.put, List.setIfInBounds_toArray, List.set_cons_zero, List.set_cons_succ]
              refine wpAnyH_take (i := 4) (v := .int .u32 x) rfl (by kernel_rfl) (by kernel_rfl) (by kernel_rfl) (fun _ _ _ h => h) (.inl ⟨by rfl, ?_⟩) (by assumption) ?_
              · intro W hW
                have k0 : W.cell? ⟨xb, xo + k, none⟩ = some (.int .u32 x) := by have h := RX.out W hW 0 _ rfl; rw [Nat.mul_one, Nat.add_zero] at h; exact h
                go_simp
              try simp only [List.getElem_toArray, List.getElem_cons_zero, List.getElem_cons_succ, Act.put, List.setIfInBounds_toArray, List.set_cons_zero, List.set_cons_succ]
              refine wpAnyH_take (i := 9) (v := .int .u32 y) rfl (by kernel_rfl) (by kernel_rfl) (by kernel_rfl) (fun _ _ _ h => h) (.inl ⟨by rfl, ?_⟩) (by assumption) ?_
              · intro W hW
                have k0 : W.cell? ⟨yb, yo + k, none⟩ = some (.int .u32 y) := by have h := RY.out W hW 0 _ rfl; rw [Nat.mul_one, Nat.add_zero] at h; exact h
                go_simp
              try simp only [List.getElem_toArray, List.getElem_cons_zero, List.getElem_cons_succ, Act.put, List.setIfInBounds_toArray, List.set_cons_zero, List.set_cons_succ]
              have HD := Lib.hid hH
              by_cases exy : x = y
              case pos =>
                subst exy
                have e_xy : (x != x) = false := by simp
                refine wpAnyH_take (i := 10) (v := .bool (false)) rfl (by kernel_rfl) (by kernel_rfl) (by kernel_rfl) (fun _ _ _ h => h) (.inl ⟨by rfl, ?_⟩) (by assumption) ?_
                · intro W hW; go_simp
                try simp only [List.getElem_toArray, List.getElem_cons_zero, List.getElem_cons_succ, Act.put, List.setIfInBounds_toArray, List.set_cons_zero, List.set_cons_succ]
                refine wpAnyH_done (by decide +kernel) ?_ _
                clear hH
                go_wp2_with fail
                go_roundw
                case rel => exact ⟨k + 1, hlt, by go_num, by rw [List.take_add_one, List.take_add_one, HX.out, HY.out, HP3.out], HB3.out.trans (HD.out.mono HB3.out.size)⟩
                case measure => simp [intOf]; omega
              case neg =>
                have EB := Lib.hid (DIF.out fun c => by subst c; have h1 := HX.out; rw [HY.out] at h1; exact exy (Option.some.inj h1).symm)
                have e_xy : (x != y) = true := by simp [exy]
                refine wpAnyH_take (i := 10) (v := .bool (true)) rfl (by kernel_rfl) (by kernel_rfl) (by kernel_rfl) (fun _ _ _ h => h) (.inl ⟨by rfl, ?_⟩) (by assumption) ?_
                · intro W hW; go_simp
                try simp only [List.getElem_toArray, List.getElem_cons_zero, List.getElem_cons_succ, Act.put, List.setIfInBounds_toArray, List.set_cons_zero, List.set_cons_succ]
                refine wpAnyH_done (by decide +kernel) ?_ _
                clear hH
                go_wp2_with fail
                go_ret
                rw [EB.out]
                exact ⟨rfl, HG1.out ▸ B2.out.trans ((HB3.out.trans (HD.out.mono HB3.out.size)).mono B2.out.size)⟩
            case neg =>
              obtain rfl : k = v.al := by omega
              have EQ3 : Hid (r.ac = s.ac) := Lib.hid (by have h1 := (RVA.out wr HB3.out).1; have h2 := (RUA.out wr HB3.out).1; have h3 := HP3.out; rwa [List.take_of_length_le (by omega), List.take_of_length_le (by omega)] at h3)
              have EB := Lib.hid (NEQ.out (SAM.out EQ1.out EQ2.out EQ3.out))
              go_wp2_with fail
              go_ret
              rw [EB.out]
              exact ⟨rfl, HG1.out ▸ B2.out.trans (HB3.out.mono B2.out.size)⟩
theorem rsame15 (v u : Rv) (r s : Rw) (w : World) (vo : v.ok) (vi : v.In w r) (ro : r.ok) (uo : u.ok) (ui : u.In w s) (so : s.ok) : Calls Tryz.prog 9 #[.agg (ERv.cells v).toArray, .agg (ERv.cells u).toArray] w fun e w' => e = .returned (.bool (eqRw r s)) ∧ Below w.heap.size w w' := by
  by_cases h : v.er = u.er ∧ v.nu = u.nu ∧ v.fi = u.fi ∧ v.le = u.le ∧ v.tl = u.tl ∧ v.gl = u.gl ∧ v.al = u.al
  · exact rsame15_good v u r s w vo vi ro uo ui so h
  · rw [eqRw_no15 fun c => h (by
      subst c
      exact ⟨vi.er.trans ui.er.symm, vi.nu.trans ui.nu.symm, vi.fi.trans ui.fi.symm, vi.le.trans ui.le.symm, vi.tr.1.symm.trans ui.tr.1, vi.go.1.symm.trans ui.go.1, vi.ac.1.symm.trans ui.ac.1⟩)]
    exact rsame15_bad v u w vo uo h
end Go.Proofs.YtbmlpokkojhhjaaGreat
