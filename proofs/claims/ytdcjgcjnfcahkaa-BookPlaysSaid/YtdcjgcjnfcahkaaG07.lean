/- Texts of a proof, laid together: Bc, Sz, Eg, Ia, Ri. -/
import Derived.DeepKeys
import Derived.Laws.StructEq
import Derived.RangeFuncNested
import Derived.RangeFuncBound
import Derived.RangeFuncCalls
import Derived.RangeFuncLeaves
import Derived.OwnWalkIn
import Derived.OrdersIn
import Derived.Deep.RegionHeld
import Derived.Deep.Quiet
import Derived.Test.YtdcjgcjnfcahkaaProg
import Derived.Test.YtdcjgcjnfcahkaaG06
import Derived.Test.YtdcjgcjnfcahkaaG01
import Derived.Test.YtdcjgcjnfcahkaaG05
/- Contracts of the document's plain book: own, at. -/
namespace Go.Proofs.Ytdcjgcjnfcahkaa
open Go.RowKit
set_option linter.unusedVariables false

set_option maxRecDepth 100000 in
theorem bown_any {B G : Nat} {g : Bool → Nat} {v : Bool → Value} {S : Sd} (b : Bool) (w : World) (h : Bk w B G g v S) :
    Calls Try.prog 56 #[.pointer (some ⟨G, 0, none⟩), .bool b] w fun e w' => e = .returned (.pointer (some ⟨g b, 0, none⟩)) ∧ w = w' := by
  have k0 := h.c0
  have k1 := h.c1
  clear h
  cases b
  all_goals
    go_enter Try.func56, Try.ntmps56
    go_wp2
    go_ret
    exact ⟨rfl, rfl⟩
theorem take_buy {S : Sd} {n : Int} (h : getA (S true) n = 0) : takeX S n = getX (S true) n ∧ takeA S n = 0 := by
  unfold getA at h
  unfold takeX takeA getX findB
  cases c : findO (S true) n with
  | none => rw [c] at h; exact absurd (show (7 : Int) = 0 from h) (by decide)
  | some x => exact ⟨rfl, rfl⟩
theorem take_sell {S : Sd} {n : Int} (h : getA (S true) n = 7) : takeX S n = getX (S false) n ∧ takeA S n = getA (S false) n := by
  unfold getA at h
  unfold takeX takeA getX getA findB
  cases c : findO (S true) n with
  | some x => rw [c] at h; exact absurd (show (0 : Int) = 7 from h) (by decide)
  | none => exact ⟨rfl, rfl⟩
theorem get_two (os : List Or) (n : Int) : getA os n = 0 ∨ getA os n = 7 := by
  unfold getA
  cases findO os n with
  | none => exact .inr rfl
  | some x => exact .inl rfl
set_option maxRecDepth 100000 in
set_option maxHeartbeats 1000000 in
theorem bat_any {B G : Nat} {g : Bool → Nat} {v : Bool → Value} {S : Sd} {n : Int} (w : World) (h : Bk w B G g v S) (hn : 0 ≤ n ∧ n ≤ 18446744073709551615) :
    Calls Try.prog 55 #[.pointer (some ⟨G, 0, none⟩), .int .u64 n] w fun e w' => e = .returned (.tuple #[.agg (EO.cells (takeX S n)).toArray, .bool (takeA S n == 0)]) ∧ Below w.heap.size w w' := by
  have hz := zero_or
  obtain ⟨W1, hW1, b1, x1, s1⟩ := res_new w
  have h1 := h.below b1
  have PA := Lib.hid (pget (h1.ps true) hn)
  have k0 := (h.below (below_new w (.cells (EO.cells zeroOr).toArray 31))).c0
  have K1 := Lib.hid fun (W : World) (q : Below W1.heap.size W1 W) => (h1.below q).c1
  have PB := Lib.hid fun (W : World) (q : Below W1.heap.size W1 W) => pget ((h1.below q).ps false) hn
  have HW := Lib.hid hW1
  have X1 := Lib.hid fun (W : World) (q : Below W1.heap.size W1 W) => (show EO.Bx 31 W w.heap.size zeroOr from gbx_below x1 q)
  have B1 := Lib.hid b1
  have S1 := Lib.hid s1
  have two := get_two (S true) n
  have E1 := Lib.hid (fun e : getA (S true) n = 0 => take_buy e)
  have E2 := Lib.hid (fun e : getA (S true) n = 7 => take_sell e)
  generalize getA (S true) n = ga at *
  generalize getX (S true) n = xa at *
  clear h h1 x1 b1 hW1 s1
  rcases two with rfl | rfl
  · obtain ⟨e1, e2⟩ := E1.out rfl
    rw [e1, e2]
    clear E1 E2 e1 e2 K1 PB
    go_enter Try.func55, Try.ntmps55
    go_wp2_with fail
    rw [HW.out]
    refine PA.out.mono ?_; rintro e w2 ⟨rfl, q2⟩
    obtain ⟨W3, hW3, b3, x3, s3⟩ := res_new w2
    have x4 : EO.Bx 31 (W3.setRow w2.heap.size (EO.cells xa).toArray) w2.heap.size xa := gbx_set x3
    have Q3 := Lib.hid (show Below W1.heap.size W1 (W3.setRow w2.heap.size (EO.cells xa).toArray) from below_row0 (q2.trans (b3.mono q2.size)) q2.size)
    have X4 := Lib.hid x4
    have X3 := Lib.hid x3
    have HW3 := Lib.hid hW3
    clear x4 x3 b3 hW3 q2
    go_wp2_with (first | (rw [HW3.out]) | (refine gwl_store TO xa w2.heap.size X3.out rfl rfl ?_) | ((with_reducible refine gwl_load TO w2.heap.size 0 (gbx_rng X4.out) ?_ ?_ ?_); rfl; rfl) | (refine gwl_store TO xa w.heap.size (X1.out _ Q3.out) rfl rfl ?_))
    exact bodyPost_ret (gret TO rfl _ _ w.heap.size rfl rfl (gbx_set (X1.out _ Q3.out))) rfl ⟨rfl, row_inO (Nat.le_refl _) (B1.out.trans (Q3.out.mono B1.out.size))⟩
  · obtain ⟨e1, e2⟩ := E2.out rfl
    rw [e1, e2]
    clear E1 E2 e1 e2
    generalize getA (S false) n = gb at *
    generalize getX (S false) n = xb at *
    go_enter Try.func55, Try.ntmps55
    go_wp2_with fail
    rw [HW.out]
    refine PA.out.mono ?_; rintro e w2 ⟨rfl, q2⟩
    obtain ⟨W3, hW3, b3, x3, s3⟩ := res_new w2
    have Q3 := Lib.hid (show Below W1.heap.size W1 (W3.setRow w2.heap.size (EO.cells xa).toArray) from below_row0 (q2.trans (b3.mono q2.size)) q2.size)
    have X4 := Lib.hid (show EO.Bx 31 (W3.setRow w2.heap.size (EO.cells xa).toArray) w2.heap.size xa from gbx_set x3)
    have X3 := Lib.hid x3
    have HW3 := Lib.hid hW3
    have k1 := K1.out _ Q3.out
    have QS := Lib.hid (show W1.heap.size ≤ w2.heap.size from q2.size)
    clear x3 b3 hW3 q2
    go_wp2_with (first | (rw [HW3.out]) | (refine gwl_store TO xa w2.heap.size X3.out rfl rfl ?_))
    refine (PB.out _ Q3.out).mono ?_; rintro e w4 ⟨rfl, q4⟩
    have Q5 := Lib.hid (show Below W1.heap.size W1 (w4.setRow w2.heap.size (EO.cells xb).toArray) from below_row0 (Q3.out.trans (q4.mono Q3.out.size)) QS.out)
    have X5 := Lib.hid (show EO.Bx 31 w4 w2.heap.size xa from gbx_below X4.out q4)
    have X6 := Lib.hid (show EO.Bx 31 (w4.setRow w2.heap.size (EO.cells xb).toArray) w2.heap.size xb from gbx_set X5.out)
    clear q4
    go_wp2_with (first | (refine gwl_store TO xb w2.heap.size X5.out rfl rfl ?_) | ((with_reducible refine gwl_load TO w2.heap.size 0 (gbx_rng X6.out) ?_ ?_ ?_); rfl; rfl) | (refine gwl_store TO xb w.heap.size (X1.out _ Q5.out) rfl rfl ?_))
    exact bodyPost_ret (gret TO rfl _ _ w.heap.size rfl rfl (gbx_set (X1.out _ Q5.out))) rfl ⟨rfl, row_inO (Nat.le_refl _) (B1.out.trans (Q5.out.mono B1.out.size))⟩
end Go.Proofs.Ytdcjgcjnfcahkaa
/- Two orders compared as Go compares structs; no program's function. -/
namespace Go.Proofs.Ytdcjgcjnfcahkaa
open Go.RowKit

def Or.lits (o : Or) : List Lit := [.int .u64 o.nu, .int .u32 o.ac, .bool o.bu, .int .i64 o.pr, .int .i64 o.le]
theorem lits_or (o : Or) (ok : o.ok) : Try.prog.keyLits 3 31 (EO.cells o) = some o.lits := by
  have h0 : (Lit.int .u64 o.nu).wf = true := by
    have := ok.nu
    simp [Lit.wf, IntKind.min, IntKind.max, IntKind.signed, IntKind.bits]
    omega
  have h1 : (Lit.int .u32 o.ac).wf = true := by
    have := ok.ac
    simp [Lit.wf, IntKind.min, IntKind.max, IntKind.signed, IntKind.bits]
    omega
  have h3 : (Lit.int .i64 o.pr).wf = true := by
    obtain ⟨a, b⟩ := ok.pr
    simp [Lit.wf, IntKind.min, IntKind.max, IntKind.signed, IntKind.bits]
    omega
  have h4 : (Lit.int .i64 o.le).wf = true := by
    obtain ⟨a, b⟩ := ok.le
    simp [Lit.wf, IntKind.min, IntKind.max, IntKind.signed, IntKind.bits]
    omega
  have c1 : Try.prog.cellsOf 28 = 1 := by kernel_rfl
  have c2 : Try.prog.cellsOf 29 = 1 := by kernel_rfl
  have c3 : Try.prog.cellsOf 4 = 1 := by kernel_rfl
  have c4 : Try.prog.cellsOf 2 = 1 := by kernel_rfl
  have c5 : Try.prog.cellsOf 31 = 5 := by kernel_rfl
  simp [Program.keyLits, EO, Or.cells, Or.lits, c5, Try.underlying31, Try.underlying28, Try.underlying29, Try.underlying4, Try.underlying2, c1, c2, c3, c4, h0, h1, h3, h4]
theorem formed_or (o : Or) : (Value.agg (EO.cells o).toArray).formed Try.prog 31 = true := by
  have c5 : Try.prog.cellsOf 31 = 5 := by kernel_rfl
  simp [Value.formed, Try.underlying31, c5, EO, Or.cells]
theorem key_or : Try.prog.keyTypeAt 3 31 = true := by kernel_rfl
theorem guard_or : Try.prog.eqGuardType Try.prog.depth 31 = false := by kernel_rfl
theorem or_lits_inj {x y : Or} (h : x.lits = y.lits) : x = y := by
  obtain ⟨a, b, c, d, e⟩ := x
  obtain ⟨a', b', c', d', e'⟩ := y
  simp [Or.lits] at h
  simp [h]
open Classical in
/-- The same Bool in every world. -/
noncomputable def eqO (x y : Or) : Bool := decide (x = y)
theorem eqO_yes (x : Or) : eqO x x = true := by simp [eqO]
theorem eqO_no {x y : Or} (h : x ≠ y) : eqO x y = false := by simp [eqO, h]
theorem eqO_iff {x y : Or} : eqO x y = true ↔ x = y := by simp [eqO]
theorem eq_or_run (x y : Or) (hx : x.ok) (hy : y.ok) (w : World) : (Op.equalIn 10000 31 (.agg (EO.cells x).toArray) (.agg (EO.cells y).toArray)).run Try.prog w = .ok (eqO x y) w := by
  have ex : (Value.agg (EO.cells x).toArray).cells.toList = EO.cells x := by simp [Value.cells]
  have ey : (Value.agg (EO.cells y).toArray).cells.toList = EO.cells y := by simp [Value.cells]
  obtain ⟨r, h1, h2⟩ := run_equalIn_deep (P := Try.prog) 9997 3 31 key_or w 3 3 (.agg (EO.cells x).toArray) (.agg (EO.cells y).toArray) x.lits y.lits (formed_or x) (formed_or y) (by rw [ex]; exact lits_or x hx) (by rw [ey]; exact lits_or y hy)
  rw [h1]
  have : r = eqO x y := by
    have h3 : r = true ↔ x = y := h2.trans ⟨or_lits_inj, fun e => by rw [e]⟩
    by_cases c : x = y
    · rw [h3.2 c, eqO_iff.2 c]
    · rw [eqO_no c]
      cases r
      · rfl
      · exact absurd (h3.1 rfl) c
  rw [this]
theorem exec_neq_or {o : Oper} {a : Act} {x y : Operand} {t2 : TypeId} (ho : o.op = .binOp .neq 31 x y t2) {u v : Or} (hu : u.ok) (hv : v.ok) (hx : a.eval x = .agg (EO.cells u).toArray) (hy : a.eval y = .agg (EO.cells v).toArray) (w : World) :
    (execOp a.eval o).run Try.prog w = .ok (.value (.bool !(eqO u v))) w := by
  unfold execOp
  simp only [ho, hx, hy, Sem.run_bind, run_eqGuard_agg w _ _ _ _ _ _ guard_or, Result.andThen_ok, run_neq_struct, eq_or_run u v hu hv w, Sem.run_pure]
theorem exec_eql_or {o : Oper} {a : Act} {x y : Operand} {t2 : TypeId} (ho : o.op = .binOp .eql 31 x y t2) {u v : Or} (hu : u.ok) (hv : v.ok) (hx : a.eval x = .agg (EO.cells u).toArray) (hy : a.eval y = .agg (EO.cells v).toArray) (w : World) :
    (execOp a.eval o).run Try.prog w = .ok (.value (.bool (eqO u v))) w := by
  unfold execOp
  simp only [ho, hx, hy, Sem.run_bind, run_eqGuard_agg w _ _ _ _ _ _ guard_or, Result.andThen_ok, run_eql_struct, eq_or_run u v hu hv w, Sem.run_pure]
theorem yields_neq_or {ops : Array Oper} {S : World → Prop} {o : Oper} {a : Act} (hw : Region.wanted o (yielded ops a.tmps) = true) (x y : Operand) {t2 : TypeId} (ho : o.op = .binOp .neq 31 x y t2) {u v : Or} (hu : u.ok) (hv : v.ok) (hx : a.eval x = .agg (EO.cells u).toArray) (hy : a.eval y = .agg (EO.cells v).toArray) :
    YieldsIf Try.prog ops S o (.bool !(eqO u v)) a := .inl ⟨hw, fun w _ => exec_neq_or ho hu hv hx hy w⟩
theorem yields_eql_or {ops : Array Oper} {S : World → Prop} {o : Oper} {a : Act} (hw : Region.wanted o (yielded ops a.tmps) = true) (x y : Operand) {t2 : TypeId} (ho : o.op = .binOp .eql 31 x y t2) {u v : Or} (hu : u.ok) (hv : v.ok) (hx : a.eval x = .agg (EO.cells u).toArray) (hy : a.eval y = .agg (EO.cells v).toArray) :
    YieldsIf Try.prog ops S o (.bool (eqO u v)) a := .inl ⟨hw, fun w _ => exec_eql_or ho hu hv hx hy w⟩
end Go.Proofs.Ytdcjgcjnfcahkaa
/- Orders compared, built, laid in a block, at operations that are guarded or not; no program's function. -/
namespace Go.Proofs.Ytdcjgcjnfcahkaa
open Go.RowKit Go.Shelf
set_option linter.unusedVariables false

section
variable {ops : Array Oper} {rest : List Oper} {a : Act} {w : World} {Q : Exit → Act → World → Prop} {d : Option Nat} {x y : Operand} {t2 ty : TypeId} {ps : String} {af : Array Edge} {gd : Option (Nat × Bool)}
theorem wl_neq_or {u v : Or} (hu : u.ok) (hv : v.ok) (hw : Region.wanted ⟨d, .binOp .neq 31 x y t2, ty, ps, af, gd⟩ (yielded ops a.tmps) = true) (hx : a.eval x = .agg (EO.cells u).toArray) (hy : a.eval y = .agg (EO.cells v).toArray)
    (h : wpList Try.prog ops Q rest (a.put d (.bool !(eqO u v))) w) : wpList Try.prog ops Q (⟨d, .binOp .neq 31 x y t2, ty, ps, af, gd⟩ :: rest) a w :=
  BigFrame.wpList_want hw fun _ hK => by
    unfold Oper.wp
    rw [exec_neq_or rfl hu hv hx hy w]
    exact hK _ _ h
theorem wl_eql_or {u v : Or} (hu : u.ok) (hv : v.ok) (hw : Region.wanted ⟨d, .binOp .eql 31 x y t2, ty, ps, af, gd⟩ (yielded ops a.tmps) = true) (hx : a.eval x = .agg (EO.cells u).toArray) (hy : a.eval y = .agg (EO.cells v).toArray)
    (h : wpList Try.prog ops Q rest (a.put d (.bool (eqO u v))) w) : wpList Try.prog ops Q (⟨d, .binOp .eql 31 x y t2, ty, ps, af, gd⟩ :: rest) a w :=
  BigFrame.wpList_want hw fun _ hK => by
    unfold Oper.wp
    rw [exec_eql_or rfl hu hv hx hy w]
    exact hK _ _ h
/-- One and the same. -/
theorem wl_neq_or0 {u : Or} (hu : u.ok) (hw : Region.wanted ⟨d, .binOp .neq 31 x y t2, ty, ps, af, gd⟩ (yielded ops a.tmps) = true) (hx : a.eval x = .agg (EO.cells u).toArray) (hy : a.eval y = .agg (EO.cells u).toArray)
    (h : wpList Try.prog ops Q rest (a.put d (.bool false)) w) : wpList Try.prog ops Q (⟨d, .binOp .neq 31 x y t2, ty, ps, af, gd⟩ :: rest) a w :=
  wl_neq_or hu hu hw hx hy (by rw [eqO_yes]; exact h)
theorem wl_eql_or0 {u : Or} (hu : u.ok) (hw : Region.wanted ⟨d, .binOp .eql 31 x y t2, ty, ps, af, gd⟩ (yielded ops a.tmps) = true) (hx : a.eval x = .agg (EO.cells u).toArray) (hy : a.eval y = .agg (EO.cells u).toArray)
    (h : wpList Try.prog ops Q rest (a.put d (.bool true)) w) : wpList Try.prog ops Q (⟨d, .binOp .eql 31 x y t2, ty, ps, af, gd⟩ :: rest) a w :=
  wl_eql_or hu hu hw hx hy (by rw [eqO_yes]; exact h)
theorem built_or6 : Try.prog.built 31 [] = some (EO.cells zeroOr).toArray := by kernel_rfl
set_option maxRecDepth 100000 in
theorem wl_build0_or (hw : Region.wanted ⟨d, .build 31 #[], ty, ps, af, gd⟩ (yielded ops a.tmps) = true) (h : wpList Try.prog ops Q rest (a.put d (.agg (EO.cells zeroOr).toArray)) w) :
    wpList Try.prog ops Q (⟨d, .build 31 #[], ty, ps, af, gd⟩ :: rest) a w := by
  have e : ∀ f : (Nat × Operand) → (Nat × Value), (Array.map f #[]).toList = [] := fun f => by simp
  refine BigFrame.wpList_want hw fun _ hK => wp_build 31 #[] rfl (by rw [e, built_or6]; rfl) ?_
  rw [e, built_or6]
  exact hK _ _ h
end
/-- An order laid in a new block. -/
theorem put_or {W1 W2 : World} (x : Or) (q : Below W1.heap.size W1 W2) : ∃ W3, (W2.alloc (.cells (EO.cells zeroOr).toArray 31)).setRow W2.heap.size (EO.cells x).toArray = W3 ∧ Below W1.heap.size W1 W3 ∧ EO.Bx 31 W3 W2.heap.size x ∧ EO.Bx 31 (W2.alloc (.cells (EO.cells zeroOr).toArray 31)) W2.heap.size zeroOr ∧ W2.heap.size < W3.heap.size := by
  have b := below_row0 (cs := (EO.cells x).toArray) (below_new W2 (.cells (EO.cells zeroOr).toArray 31)) (Nat.le_refl _)
  have y := gbx_set (x := x) (gbx_new (E := EO) (te := 31) W2 zeroOr)
  exact ⟨_, rfl, q.trans (b.mono q.size), y, gbx_new W2 zeroOr, (Array.getElem?_eq_some_iff.1 y).1⟩
end Go.Proofs.Ytdcjgcjnfcahkaa
/- The program's book in memory, given the program's side; its small calls: missing, side, known, rests, meets. -/
namespace Go.Proofs.Ytdcjgcjnfcahkaa
open Go.RowKit Go.Shelf
set_option linter.unusedVariables false

/-- The program's book at block G: its two sides, each with its blocks. -/
structure Bp (Pd : PdT) (W : World) (G : Nat) (g : Bool → Nat) (F : Bool → Nat → Prop) (S : Sd) (t : Nat) : Prop where
  blk : W.heap[G]? = some (.cells #[.pointer (some ⟨g true, 0, none⟩), .pointer (some ⟨g false, 0, none⟩)] 44 (0, 0))
  pd : ∀ b, Pd W (F b) (g b) b (S b) t
  ap : ∀ b k, F b k → ¬ F (!b) k
  gb : ∀ b, ¬ F b G
def BpF (G : Nat) (F : Bool → Nat → Prop) (k : Nat) : Prop := k = G ∨ ∃ b, F b k
def bkO (g : Bool → Nat) : Obj := .cells #[.pointer (some ⟨g true, 0, none⟩), .pointer (some ⟨g false, 0, none⟩)] 44 (0, 0)
/-- Behind a call on it. -/
def BpN (Pd : PdT) (w : World) (G : Nat) (g : Bool → Nat) (F : Bool → Nat → Prop) (S : Sd) (t : Nat) (w' : World) : Prop :=
  ∃ F', Bp Pd w' G g F' S t ∧ Fr (fun k => ∃ b, F b k) w w' ∧ ∀ b k, F' b k → F b k ∨ w.heap.size ≤ k
section
variable {Pd : PdT} {zs : Array Value} {W W' w w' w2 : World} {G : Nat} {g : Bool → Nat} {F : Bool → Nat → Prop} {S T : Sd} {t t' : Nat} {b : Bool} {os : List Or}
theorem Bp.c0 (h : Bp Pd W G g F S t) : W.cell? ⟨G, 0, none⟩ = some (.pointer (some ⟨g true, 0, none⟩)) := by rw [cell_of_row _ _ _ _ _ _ h.blk]; rfl
theorem Bp.c1 (h : Bp Pd W G g F S t) : W.cell? ⟨G, 1, none⟩ = some (.pointer (some ⟨g false, 0, none⟩)) := by rw [cell_of_row _ _ _ _ _ _ h.blk]; rfl
theorem Bp.gl (h : Bp Pd W G g F S t) : G < W.heap.size := (Array.getElem?_eq_some_iff.1 h.blk).1
theorem Bp.lt (K : SideK Pd zs) (h : Bp Pd W G g F S t) {k : Nat} (hk : BpF G F k) : k < W.heap.size := by
  rcases hk with rfl | ⟨b, hk⟩
  · exact h.gl
  · exact K.lt (h.pd b) k hk
theorem Bp.inv (K : SideK Pd zs) (h : Bp Pd W G g F S t) (b : Bool) : InvO b (S b) := K.inv (h.pd b)
theorem Bp.keep {Q : Nat → Prop} (K : SideK Pd zs) (h : Bp Pd W G g F S t) (f : Fr Q W W') (hQ : ∀ k, BpF G F k → ¬ Q k) : Bp Pd W' G g F S t :=
  ⟨(f.at' G h.gl (hQ G (.inl rfl))).trans h.blk, fun b => K.keep (h.pd b) f (fun k hk => hQ k (.inr ⟨b, hk⟩)), h.ap, h.gb⟩
theorem Bp.below (K : SideK Pd zs) (h : Bp Pd W G g F S t) (q : Below W.heap.size W W') : Bp Pd W' G g F S t := h.keep K (Q := fun _ => False) (Fr.below q) (fun _ _ h => h)
theorem Bp.more (K : SideK Pd zs) (h : Bp Pd W G g F S t) (ht : t ≤ t') : Bp Pd W G g F S t' := ⟨h.blk, fun b => K.more (h.pd b) ht, h.ap, h.gb⟩
theorem bpn_same (K : SideK Pd zs) (h : Bp Pd w G g F S t) (q : Below w.heap.size w w') : BpN Pd w G g F S t w' := ⟨F, h.below K q, Fr.below q, fun _ _ h => .inl h⟩
theorem bpn_from (q : Below W.heap.size W w) (h : BpN Pd w G g F S t w') : BpN Pd W G g F S t w' := by
  obtain ⟨F', h1, h2, h3⟩ := h
  exact ⟨F', h1, (Fr.below q).same h2, fun b k hk => (h3 b k hk).imp id fun c => Nat.le_trans q.size c⟩
theorem bpn_then (K : SideK Pd zs) (h : BpN Pd w G g F S t w') (q : Below w'.heap.size w' w2) : BpN Pd w G g F S t w2 := by
  obtain ⟨F', h1, h2, h3⟩ := h
  exact ⟨F', h1.below K q, h2.same (Fr.below q), h3⟩
theorem bpn_trans (h : BpN Pd w G g F S t w') (k : ∀ F', Bp Pd w' G g F' S t → BpN Pd w' G g F' T t' w2) : BpN Pd w G g F T t' w2 := by
  obtain ⟨F1, h1, h2, h3⟩ := h
  obtain ⟨F2, k1, k2, k3⟩ := k F1 h1
  refine ⟨F2, k1, h2.trans k2 (fun _ h => h) (fun k hk ⟨b, e⟩ => ?_), fun b j hj => ?_⟩
  · rcases h3 b k e with c | c
    · exact ⟨b, c⟩
    · omega
  · rcases k3 b j hj with c | c
    · exact h3 b j c
    · exact .inr (Nat.le_trans h2.size c)
theorem bool_not {b c : Bool} (h : c ≠ b) : c = !b := by cases b <;> cases c <;> first | rfl | exact absurd rfl h
/-- A call on a side is a call on the book. -/
theorem Bp.turn (K : SideK Pd zs) (h : Bp Pd w G g F S t) (ht : t ≤ t') (q : AftO Pd w (F b) (g b) b os t' w') : BpN Pd w G g F (S.up b os) t' w' := by
  obtain ⟨F', q1, q2, q3⟩ := q
  have hlt : ∀ c k, F c k → k < w.heap.size := fun c k hk => K.lt (h.pd c) k hk
  refine ⟨fun c => if c = b then F' else F c, ⟨(q2.at' G h.gl (h.gb b)).trans h.blk, fun c => ?_, fun c k hk => ?_, fun c hk => ?_⟩, q2.mono (fun k e => ⟨b, e⟩), fun c k hk => ?_⟩
  · by_cases e : c = b
    · subst e
      rw [Sd.up_at, if_pos rfl]
      exact q1
    · rw [Sd.up_ne S os e, if_neg e]
      refine K.more (K.keep (h.pd c) q2 (fun k hk d => ?_)) ht
      have := h.ap b k d
      rw [← bool_not e] at this
      exact this hk
  · by_cases e : c = b
    · subst e
      rw [if_pos rfl] at hk
      rw [if_neg (by cases c <;> decide)]
      rcases q3 k hk with d | d
      · exact h.ap c k d
      · exact fun x => by have := hlt _ k x; omega
    · rw [if_neg e] at hk
      have eb : (!c) = b := by rw [bool_not e]; cases b <;> rfl
      rw [if_pos eb]
      intro x
      rcases q3 k x with d | d
      · have := h.ap c k hk
        rw [eb] at this
        exact this d
      · have := hlt c k hk; omega
  · by_cases e : c = b
    · rw [if_pos e] at hk
      rcases q3 G hk with d | d
      · exact h.gb b d
      · have := h.gl; omega
    · rw [if_neg e] at hk
      exact h.gb c hk
  · dsimp only at hk
    by_cases e : c = b
    · subst e
      rw [if_pos rfl] at hk
      exact q3 k hk
    · rw [if_neg e] at hk
      exact .inl hk
end
section
variable {Pd : PdT} {zs : Array Value} {w : World} {G : Nat} {g : Bool → Nat} {F : Bool → Nat → Prop} {S : Sd} {t : Nat}
set_option maxRecDepth 100000 in
theorem pmiss_no (h : w.cell? ⟨G, 0, none⟩ = some (.pointer (some ⟨g true, 0, none⟩))) : Calls Try.prog 29 #[.pointer (some ⟨G, 0, none⟩)] w fun e w' => e = .returned (.bool false) ∧ w = w' := by
  go_enter Try.func29, Try.ntmps29
  go_wp2
  go_ret
  exact ⟨rfl, rfl⟩
set_option maxRecDepth 100000 in
theorem pmiss_zero (h : w.cell? ⟨G, 0, none⟩ = some (.pointer none)) : Calls Try.prog 29 #[.pointer (some ⟨G, 0, none⟩)] w fun e w' => e = .returned (.bool true) ∧ w = w' := by
  go_enter Try.func29, Try.ntmps29
  go_wp2
  go_ret
  exact ⟨rfl, rfl⟩
set_option maxRecDepth 100000 in
theorem pmiss_nil (w : World) : Calls Try.prog 29 #[.pointer none] w fun e w' => e = .returned (.bool true) ∧ w = w' := by
  go_enter Try.func29, Try.ntmps29
  go_wp2
  go_ret
  exact ⟨rfl, rfl⟩
set_option maxRecDepth 100000 in
theorem pside_any (b : Bool) (h : Bp Pd w G g F S t) : Calls Try.prog 32 #[.pointer (some ⟨G, 0, none⟩), .bool b] w fun e w' => e = .returned (.pointer (some ⟨g b, 0, none⟩)) ∧ w = w' := by
  have k0 := h.c0
  have k1 := h.c1
  clear h
  cases b
  all_goals
    go_enter Try.func32, Try.ntmps32
    go_wp2
    go_ret
    exact ⟨rfl, rfl⟩
def knownK (k : Int) : Bool := k == 1 || k == 2 || k == 3 || k == 4
set_option maxRecDepth 100000 in
theorem pknown_any (k : Int) (w : World) : Calls Try.prog 63 #[.int .u8 k] w fun e w' => e = .returned (.bool (knownK k)) ∧ w = w' := by
  obtain ⟨r, hr⟩ : ∃ r, knownK k = r := ⟨_, rfl⟩
  rw [hr]
  unfold knownK at hr
  by_cases h1 : (k == 1) = true
  · rw [h1] at hr; simp at hr; subst hr
    go_enter Try.func63, Try.ntmps63
    go_wp2
    go_ret
    exact ⟨rfl, rfl⟩
  have h1 : (k == 1) = false := by simpa using h1
  by_cases h2 : (k == 2) = true
  · rw [h1, h2] at hr; simp at hr; subst hr
    go_enter Try.func63, Try.ntmps63
    go_wp2
    go_ret
    exact ⟨rfl, rfl⟩
  have h2 : (k == 2) = false := by simpa using h2
  by_cases h3 : (k == 3) = true
  · rw [h1, h2, h3] at hr; simp at hr; subst hr
    go_enter Try.func63, Try.ntmps63
    go_wp2
    go_ret
    exact ⟨rfl, rfl⟩
  have h3 : (k == 3) = false := by simpa using h3
  cases h4 : (k == 4)
  all_goals
    rw [h1, h2, h3, h4] at hr; simp at hr; subst hr
    go_enter Try.func63, Try.ntmps63
    go_wp2
    go_ret
    exact ⟨rfl, rfl⟩
set_option maxRecDepth 100000 in
theorem prests_any (k : Int) (w : World) : Calls Try.prog 43 #[.int .u8 k] w fun e w' => e = .returned (.bool (restK k)) ∧ w = w' := by
  obtain ⟨r, hr⟩ : ∃ r, restK k = r := ⟨_, rfl⟩
  rw [hr]
  unfold restK at hr
  cases h1 : (k == 1)
  · cases h4 : (k == 4)
    all_goals
      rw [h1, h4] at hr; simp at hr; subst hr
      go_enter Try.func43, Try.ntmps43
      go_wp2
      go_ret
      exact ⟨rfl, rfl⟩
  · rw [h1] at hr; simp at hr; subst hr
    go_enter Try.func43, Try.ntmps43
    go_wp2
    go_ret
    exact ⟨rfl, rfl⟩
theorem met_eq (o x : Or) : metO o x = if o.bu then decide (x.pr ≤ o.pr) else decide (o.pr ≤ x.pr) := by
  unfold metO btr
  cases o.bu
  · simp only [Bool.false_and, Bool.false_or, Bool.not_false, Bool.true_and, Bool.false_eq_true, if_false]
    by_cases h : x.pr = o.pr
    · rw [h]; simp
    · rw [beq_eq_false_iff_ne.2 h, Bool.false_or]; by_cases c : o.pr < x.pr <;> simp [c] <;> omega
  · simp only [Bool.true_and, Bool.not_true, Bool.false_and, Bool.or_false, if_true]
    by_cases h : x.pr = o.pr
    · rw [h]; simp
    · rw [beq_eq_false_iff_ne.2 h, Bool.false_or]; by_cases c : x.pr < o.pr <;> simp [c] <;> omega
set_option maxRecDepth 100000 in
theorem pmeets_any (o x : Or) (w : World) : Calls Try.prog 67 #[.agg (EO.cells o).toArray, .agg (EO.cells x).toArray] w fun e w' => e = .returned (.bool (metO o x)) ∧ Below w.heap.size w w' := by
  rw [met_eq]
  obtain ⟨nu, ac, bu, p, le⟩ := o
  obtain ⟨nu', ac', bu', p', le'⟩ := x
  have b1 := below_new w (.cells #[.int .u64 nu, .int .u32 ac, .bool bu, .int .i64 p, .int .i64 le] 31)
  have b2 := b1.trans ((below_new (w.alloc (.cells #[.int .u64 nu, .int .u32 ac, .bool bu, .int .i64 p, .int .i64 le] 31)) (.cells #[.int .u64 nu', .int .u32 ac', .bool bu', .int .i64 p', .int .i64 le'] 31)).mono b1.size)
  have B2 := Lib.hid b2
  clear b1 b2
  show Calls Try.prog 67 #[.agg #[.int .u64 nu, .int .u32 ac, .bool bu, .int .i64 p, .int .i64 le], .agg #[.int .u64 nu', .int .u32 ac', .bool bu', .int .i64 p', .int .i64 le']] w _
  cases bu
  all_goals
    simp only [Bool.false_eq_true, if_false, if_true]
    go_enter Try.func67, Try.ntmps67
    go_wp2
    go_ret
    exact ⟨rfl, B2.out⟩
end
end Go.Proofs.Ytdcjgcjnfcahkaa
/- A region in a round of a loop over a function is walked as anywhere: plain facts, no program's function. -/
namespace Go.Proofs.Ytdcjgcjnfcahkaa
open Go.RowKit

section
variable {P : Program} {l n : Nat} {ops : Array Oper} {Q : Exit → Act → World → Prop}
theorem rows_in {row : String} {args : Array Value} {w : World} {R : Value → World → Prop} (h : Rows P row args w R) : RowsIn (Fence.wide.inRound l) n P row args w R :=
  fun c cs _ => let ⟨v, w', r, s⟩ := h c cs; ⟨v, w', r, stepsIn_wide.2 s⟩
theorem op_in {o : Oper} {a : Act} {w : World} {next : Act → World → Prop} (hd : ∀ c, o.op ≠ .defer c) (h : o.wp P a w next Q) : o.wpIn (Fence.wide.inRound l) n P a w next Q := by
  refine ⟨fun _ _ => trivial, ?_⟩
  rw [Oper.semAt_plain _ _ _ hd]
  unfold Oper.wp at h
  generalize (execOp a.eval o).run P w = r at h ⊢
  cases r with
  | ok v w' => cases v with
    | value v => exact h
    | skip => exact h
    | defer d => exact h
    | enter f args =>
      refine ⟨fun c => ?_, CallsIn.inRound l (callsIn_wide.2 (Calls.mono h ?_))⟩
      · cases c
      · intro e w2 q
        cases e <;> exact q
    | row row args =>
      refine ⟨fun c => ?_, rows_in h⟩
      cases c
    | _ => exact h.elim
  | halt x w' => cases x <;> first | exact h | exact h.elim
def noDefer (ops : Array Oper) : Bool := ops.toList.all fun o => match o.op with | .defer _ => false | _ => true
theorem no_defer {ops : Array Oper} (h : noDefer ops = true) {o : Oper} (ho : o ∈ ops.toList) : ∀ c, o.op ≠ .defer c := fun c e => by
  have := List.all_eq_true.1 h o ho
  rw [e] at this
  cases this
theorem opI_in {i : Nat} {K : Act → World → Prop} {a : Act} {w : World} (hd : noDefer ops = true) (hL : ¬ LetsOut Q) (h : wpOp P ops Q i K a w) : wpOpIn (Fence.wide.inRound l) n P ops Q i K a w := by
  unfold wpOp at h
  unfold wpOpIn
  cases ho : ops[i]? with
  | none => rw [ho] at h; exact h
  | some o =>
    rw [ho] at h
    dsimp only at h ⊢
    split
    · rename_i hw
      rw [if_pos hw] at h
      exact op_in (no_defer hd (by obtain ⟨hi, e⟩ := Array.getElem?_eq_some_iff.1 ho; rw [← e]; simp)) (h.resolve_right fun c => hL c.2)
    · rename_i hw
      rw [if_neg hw] at h
      exact ⟨fun _ _ => trivial, h⟩
theorem any_in {md : Region.Mode} (hd : noDefer ops = true) (hL : ¬ LetsOut Q) : ∀ (fuel : Nat) (listed : Array Bool) (a : Act) (w : World), wpAny P md ops Q fuel listed a w → wpAnyIn (Fence.wide.inRound l) n P md ops Q fuel listed a w
  | 0, _, _, _, h => h
  | fuel + 1, _, _, _, h => ⟨h.1, fun i hi => wpOpIn_mono (fun a' w' => any_in hd hL fuel _ a' w') (opI_in hd hL (h.2 i hi))⟩
theorem list_in (hd : noDefer ops = true) (hL : ¬ LetsOut Q) : ∀ (os : List Oper), (∀ o, o ∈ os → o ∈ ops.toList) → ∀ (a : Act) (w : World), wpList P ops Q os a w → wpListIn (Fence.wide.inRound l) n P ops Q os a w
  | [], _, _, _, h => h
  | o :: os, hs, a, w, h => by
    unfold wpList at h
    unfold wpListIn
    split
    · rename_i hw
      rw [if_pos hw] at h
      exact Oper.wpIn_mono (fun a' w' => list_in hd hL os (fun x hx => hs x (by simp [hx])) a' w') (op_in (no_defer hd (hs o (by simp))) (h.resolve_right fun c => hL c.2))
    · rename_i hw
      rw [if_neg hw] at h
      exact ⟨fun _ _ => trivial, list_in hd hL os (fun x hx => hs x (by simp [hx])) _ _ h⟩
/-- A plain region in a round; one that draws its order. -/
theorem region_in {id : Nat} {os : List Oper} {a : Act} {w : World} (hd : noDefer os.toArray = true) (hL : ¬ LetsOut Q) (h : wpList P os.toArray Q os a w) : (Code.region id os.toArray false).wpIn (Fence.wide.inRound l) n P Q a w :=
  wpIn_region_lit (list_in hd hL os (fun o ho => by simpa using ho) a w h)
theorem region_held_in {id : Nat} {S : World → Prop} {a : Act} {w : World} (hd : noDefer ops = true) (hL : ¬ LetsOut Q) (hm : P.follows .mixedOrders = true) (hS : S w.drew)
    (h : S w.drew → wpAnyH P .any ops Q S ops.size (Array.replicate ops.size false) a w.drew) : (Code.region id ops true).wpIn (Fence.wide.inRound l) n P Q a w :=
  wpIn_region_any hm (any_in hd hL _ _ _ _ (wpAny_of_held _ _ _ _ (h hS)))
/-- A function that ends by returning alone. -/
def retOnly (Q : Exit → Act → World → Prop) : Exit → Act → World → Prop
  | .normal, a, w => Q .normal a w
  | .ret, a, w => Q .ret a w
  | _, _, _ => False
theorem calls_marks {f : FuncId} {fn : Func} {c : Code} {args : Array Value} {w : World} {R : Ending → World → Prop} (hf : P.funcs[f]? = some fn) (hb : fn.body = some c)
    (h : c.wp P (retOnly (bodyPostM Fence.wide 9 P fn R)) { tmps := args ++ Array.replicate (fn.ntmps - args.size) undef, defers := [] } w) : Calls P f args w R :=
  (callsIn_wide (n := 9)).1 (callsIn_of_wp_marks hf hb trivial (wpIn_wide.2 (wp_mono h fun e a w q => by cases e <;> first | exact q | exact q.elim)) rfl)
/-- The marks of its loops over functions, taken off as it returns. -/
def unmark : List Nat → World → World
  | [], w => w
  | D :: Ds, w => unmark Ds (w.putObj D (.deferred none))
def marks (Ds : List Nat) : List Deferred := Ds.map fun D => { target := .collected D, args := #[] }
theorem leave_marks {fn : Func} {tmps : Array Value} {R : Ending → World → Prop} {v : Value} : ∀ (Ds : List Nat) (w : World), Ds.Nodup → (∀ D, D ∈ Ds → w.heap[D]? = some (.deferred (some []))) →
    (results fn tmps).run P (unmark Ds w) = .ok v (unmark Ds w) → R (.returned v) (unmark Ds w) → LeavesInM Fence.wide 9 P fn tmps R (marks Ds) .returning w
  | [], w, _, _, h, hR => ⟨v, h, hR⟩
  | D :: Ds, w, hn, hD, h, hR => by
    obtain ⟨n1, n2⟩ := List.nodup_cons.1 hn
    refine ⟨by simp, .inl ⟨_, _, rfl, run_takeDeferred (hD D (by simp)), leave_marks Ds _ n2 (fun E hE => ?_) h hR⟩⟩
    have hne : E ≠ D := fun e => n1 (by rw [← e]; exact hE)
    exact (World.putObj_heap_other hne).trans (hD E (by simp [hE]))
theorem ret_marks {fn : Func} {a : Act} {w : World} {R : Ending → World → Prop} {v : Value} (Ds : List Nat) (hd : a.defers = marks Ds) (hn : Ds.Nodup) (hD : ∀ D, D ∈ Ds → w.heap[D]? = some (.deferred (some [])))
    (h : (results fn a.tmps).run P (unmark Ds w) = .ok v (unmark Ds w)) (hR : R (.returned v) (unmark Ds w)) : retOnly (bodyPostM Fence.wide 9 P fn R) .ret a w := by
  show LeavesInM Fence.wide 9 P fn a.tmps R a.defers .returning w
  rw [hd]
  exact leave_marks Ds w hn hD h hR
theorem unmark_other : ∀ (Ds : List Nat) (w : World) (k : Nat), ¬ k ∈ Ds → (unmark Ds w).heap[k]? = w.heap[k]?
  | [], _, _, _ => rfl
  | D :: Ds, w, k, h => by
    show (unmark Ds (w.putObj D (.deferred none))).heap[k]? = _
    have hne : k ≠ D := fun e => h (by simp [e])
    exact (unmark_other Ds _ k (fun c => h (by simp [c]))).trans (World.putObj_heap_other hne)
theorem unmark_below : ∀ (Ds : List Nat) (w w0 : World) (N : Nat), (∀ D, D ∈ Ds → N ≤ D) → N ≤ w.heap.size → Below N w0 w → Below N w0 (unmark Ds w)
  | [], _, _, _, _, _, b => b
  | D :: Ds, w, w0, N, h, hN, b => by
    refine unmark_below Ds (w.putObj D (.deferred none)) w0 N (fun E hE => h E (by simp [hE])) ?_ (b.grown (grownBy_putObj' w D _) hN (fun k e => by cases e; exact h D (by simp)))
    exact Nat.le_trans hN (grownBy_putObj' w D (.deferred none)).size
end
end Go.Proofs.Ytdcjgcjnfcahkaa
