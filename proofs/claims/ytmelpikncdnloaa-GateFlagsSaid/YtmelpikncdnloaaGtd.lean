/- Memory: a field of what stands at the gate written over; no program's function. -/
import Derived.Test.YtmelpikncdnloaaGta
namespace Go.Proofs.Ytmelpikncdnloaa
open Go.RowKit
set_option linter.unusedVariables false
set_option linter.unusedSimpArgs false

section
variable {w : World} {b : Nat} {x : Gt} {te : TypeId}
theorem gt_put (h : EG.Bx te w b x) {j : Nat} {u : Value} (y : Gt) (hs : y.sp = x.sp) (hr : y.rest = x.rest.set j u) : EG.Bx te (w.setCell ⟨b, 25 + j, none⟩ u) b y := by
  refine gbx_put h ?_
  show y.sp.cellL ++ y.rest = (x.sp.cellL ++ x.rest).set (25 + j) u
  have e : x.sp.cellL.length = 25 := sp_lenG x.len
  rw [hs, hr, List.set_append_right (25 + j) u (by rw [e]; omega), e, Nat.add_sub_cancel_left]
theorem gt_sput (h : EG.Bx te w b x) {i : Nat} {u : Value} (y : Gt) (hi : i < 25) (hs : y.sp.cellL = x.sp.cellL.set i u) (hr : y.rest = x.rest) : EG.Bx te (w.setCell ⟨b, i, none⟩ u) b y := by
  refine gbx_put h ?_
  show y.sp.cellL ++ y.rest = (x.sp.cellL ++ x.rest).set i u
  have e : x.sp.cellL.length = 25 := sp_lenG x.len
  rw [hs, hr, List.set_append_left i u (by rw [e]; omega)]
theorem gt_there (h : EG.Bx te w b x) : w.there b 27 4 := fun j hj => by
  refine ⟨?_, gbx_fz h _⟩
  rw [gbx_cell h, show 27 + j = 25 + (j + 2) by omega, gt_more]
  match j, hj with
  | 0, _ => rfl
  | 1, _ => rfl
  | 2, _ => rfl
  | 3, _ => rfl
theorem gt_acput (h : EG.Bx te w b x) {nu ca : Int} {ki de : Bool} : EG.Bx te (w.setCells b 27 [.int .u32 nu, .int .i64 ca, .bool ki, .bool de]) b { x with nu := nu, ca := ca, ki := ki, de := de } := by
  have h1 := gt_put h (j := 2) (u := .int .u32 nu) { x with nu := nu } rfl rfl
  have h2 := gt_put h1 (j := 3) (u := .int .i64 ca) { x with nu := nu, ca := ca } rfl rfl
  have h3 := gt_put h2 (j := 4) (u := .bool ki) { x with nu := nu, ca := ca, ki := ki } rfl rfl
  exact gt_put h3 (j := 5) (u := .bool de) { x with nu := nu, ca := ca, ki := ki, de := de } rfl rfl
theorem below_cells {B : Nat} {a : World} (hb : B ≤ b) : ∀ (vs : List Value) (o : Nat) (w : World), Below B a w → Below B a (w.setCells b o vs)
  | [], _, _, h => h
  | v :: vs, o, _, h => below_cells hb vs (o + 1) _ (h.setCell hb v)
end
/-- A gate allocated beside others, and written over. -/
theorem gt_new (w : World) (x : Gt) : EG.Bx 32 ((w.alloc (.cells (EG.cells zeroGt).toArray 32)).setRow w.heap.size (EG.cells x).toArray) w.heap.size x := gbx_set (gbx_new w zeroGt)
theorem gt_newb (w : World) (x : Gt) : Below w.heap.size w ((w.alloc (.cells (EG.cells zeroGt).toArray 32)).setRow w.heap.size (EG.cells x).toArray) := below_row0 (below_new w _) (Nat.le_refl _)
theorem gt_newz (w : World) (x : Gt) : w.heap.size < ((w.alloc (.cells (EG.cells zeroGt).toArray 32)).setRow w.heap.size (EG.cells x).toArray).heap.size := (Array.getElem?_eq_some_iff.1 (gt_new w x)).1
end Go.Proofs.Ytmelpikncdnloaa
