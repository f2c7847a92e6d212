/- What is asked of the program's own calls on a contract's data, and the statements' own small contract and check. -/
import Derived.Test.YtlnakhbcefmiaaaQg
import Derived.Test.YtlnakhbcefmiaaaPt
import Derived.Test.YtlnakhbcefmiaaaQn
import Derived.Test.YtlnakhbcefmiaaaQe
namespace Go.Proofs.Ytlnakhbcefmiaaa
open Go.RowKit

/-- The data come out of their bytes, or there are none. -/
def ReadYes (w : World) (s : Sp) (e : Ending) (w' : World) : Prop := e = .returned (.tuple #[.agg s.cells, .int .i64 0]) ∧ Below w.heap.size w w'
structure SpecK : Prop where
  may : ∀ (s : Sp) (w : World), s.ok → Calls Try.prog 8 #[.agg s.cells] w fun e w' => e = .returned (.bool (mayB s)) ∧ Below w.heap.size w w'
  price : ∀ (s : Sp) (n : Int) (w : World), s.ok → I64 n → Calls Try.prog 10 #[.agg s.cells, .int .i64 n] w fun e w' => e = .returned (.bool (priceB s n)) ∧ Below w.heap.size w w'
  qty : ∀ (s : Sp) (n : Int) (w : World), s.ok → I64 n → Calls Try.prog 12 #[.agg s.cells, .int .i64 n] w fun e w' => e = .returned (.bool (qtyB s n)) ∧ Below w.heap.size w w'
  band : ∀ (s : Sp) (a b : Int) (w : World), s.ok → I64 a → I64 b → Calls Try.prog 14 #[.agg s.cells, .int .i64 a, .int .i64 b] w fun e w' => e = .returned (.bool (bandB s a b)) ∧ Below w.heap.size w w'
  bytesT : ∀ (s : Sp) (w : World), s.ok → mayB s = true → Calls Try.prog 17 #[.agg s.cells] w fun e w' => ∃ v, e = .returned (.tuple #[v, .int .i64 0]) ∧ New w w' v (form s)
  bytesF : ∀ (s : Sp) (w : World), s.ok → mayB s = false → Calls Try.prog 17 #[.agg s.cells] w fun e w' => ∃ A c, e = .returned (.tuple #[.slice A 0 c, .int .i64 2]) ∧ Below w.heap.size w w'
  put : ∀ (A : Option Addr) (n c : Nat) (bs : List Int) (s : Sp) (w : World), RdB w A n bs → By bs → (A = none → n = 0 ∧ c = 0) → n ≤ 100000 → s.ok → Calls Try.prog 18 #[.slice A n c, .agg s.cells] w fun e w' =>
    ∃ A' c', e = .returned (.slice A' (bs ++ if mayB s then form s else []).length c') ∧ RdB w' A' (bs ++ if mayB s then form s else []).length (bs ++ if mayB s then form s else []) ∧ Below w.heap.size w w'
  readT : ∀ (A : Option Addr) (n c : Nat) (bs : List Int) (s : Sp) (w : World), RdB w A n bs → By bs → (A = none → n = 0 ∧ c = 0) → n ≤ 100000 → s.ok → mayB s = true → bs = form s → Calls Try.prog 20 #[.slice A n c] w (ReadYes w s)
  readF : ∀ (A : Option Addr) (n c : Nat) (bs : List Int) (w : World), RdB w A n bs → By bs → (A = none → n = 0 ∧ c = 0) → n ≤ 100000 → (∀ s : Sp, s.ok → mayB s = true → bs ≠ form s) → Calls Try.prog 20 #[.slice A n c] w fun e w' => e = .returned (.tuple #[.agg zeroSp.cells, .int .i64 5]) ∧ Below w.heap.size w w'

def smallSp : Sp := ⟨1, 1, 5, 10, 100, 1000, [50, -50, 0, 0, 0, 0, 0, 0, 0, 0, 0, 0, 0, 0, 0, 0], 0, 9, 1000⟩
def small0 : Sp := ⟨1, 1, 5, 10, 100, 1000, [0, 0, 0, 0, 0, 0, 0, 0, 0, 0, 0, 0, 0, 0, 0, 0], 0, 9, 1000⟩
def small1 : Sp := ⟨1, 1, 5, 10, 100, 1000, [50, 0, 0, 0, 0, 0, 0, 0, 0, 0, 0, 0, 0, 0, 0, 0], 0, 9, 1000⟩
theorem small_ok : smallSp.ok := by
  refine ⟨?_, ?_, ?_, ?_, ?_, ?_, ?_, ?_, ?_, ?_, ?_⟩ <;> first | (simp [smallSp, I64]; done) | (simp [smallSp])
theorem small_may : mayB smallSp = true := by decide +kernel
theorem small_price : priceB smallSp 1001 = false := by decide +kernel

theorem build_small : ((((((((zeroSp.cells.setIfInBounds 0 (Value.int IntKind.u32 1)).setIfInBounds 1 (Value.int IntKind.u8 1)).setIfInBounds 2 (Value.int IntKind.i64 5)).setIfInBounds 3 (Value.int IntKind.i64 10)).setIfInBounds 4 (Value.int IntKind.i64 100)).setIfInBounds 5 (Value.int IntKind.i64 1000)).setIfInBounds 23 (Value.int IntKind.u32 9)).setIfInBounds 24 (Value.int IntKind.i64 1000)) = small0.cells := by kernel_rfl
theorem set_one : small0.cells.setIfInBounds 6 (Value.int IntKind.i64 50) = small1.cells := by kernel_rfl
theorem set_two : small1.cells.setIfInBounds 7 (Value.int IntKind.i64 (-50)) = smallSp.cells := by kernel_rfl

set_option maxRecDepth 100000 in
set_option maxHeartbeats 4000000 in
theorem tiny_any (w : World) : Calls Try.prog 28 #[] w fun e w' => e = .returned (.agg smallSp.cells) ∧ Below w.heap.size w w' := by
  have Z := zero_sp
  have BS := build_small
  have S0 := Sp.size (s := small0) rfl
  have HB1 : Hid (Box ((w.alloc (.cells zeroSp.cells 25)).alloc (.cells zeroSp.cells 25)) (w.heap.size + 1) zeroSp) := Lib.hid ⟨heap_alloc2_new w _ _, rfl⟩
  have HB0 : Hid (Box ((w.alloc (.cells zeroSp.cells 25)).alloc (.cells zeroSp.cells 25)) w.heap.size zeroSp) := Lib.hid ⟨heap_alloc2_old w _ _, rfl⟩
  have B := Lib.hid (((Below.refl w.heap.size w).alloc (Nat.le_refl _) (.cells zeroSp.cells 25)).alloc (one_alloc _ _) (.cells zeroSp.cells 25))
  obtain ⟨w2, hw2⟩ : ∃ W, (w.alloc (.cells zeroSp.cells 25)).alloc (.cells zeroSp.cells 25) = W := ⟨_, rfl⟩
  have HB2 := Lib.hid (box_set HB1.out (s := small0) rfl)
  have HB3 : Hid (Box (((w.alloc (.cells zeroSp.cells 25)).alloc (.cells zeroSp.cells 25)).setRow (w.heap.size + 1) small0.cells) w.heap.size zeroSp) := Lib.hid ⟨(setRow_other _ (w.heap.size + 1) w.heap.size _ (by omega)).trans HB0.out.1, rfl⟩
  have B2 := Lib.hid (below_row' (g := w.heap.size + 1) (cs := small0.cells) B.out (by omega))
  obtain ⟨W2, hW2⟩ : ∃ W, (((w.alloc (.cells zeroSp.cells 25)).alloc (.cells zeroSp.cells 25)).setRow (w.heap.size + 1) small0.cells) = W := ⟨_, rfl⟩
  rw [hW2] at HB2 HB3 B2
  have HW2 := Lib.hid hW2
  clear hW2 hw2 w2
  have c6 : W2.cell? ⟨w.heap.size + 1, 6, none⟩ = some (.int .i64 0) := HB2.out.cell 6
  have c7 : W2.cell? ⟨w.heap.size + 1, 7, none⟩ = some (.int .i64 0) := HB2.out.cell 7
  have f6 := HB2.out.free 6
  have f7 := HB2.out.free 7
  have HB4 := Lib.hid (box_cell (box_cell HB2.out (t := small1) rfl set_one) (t := smallSp) rfl set_two)
  have HB5 : Hid (Box ((W2.setCell ⟨w.heap.size + 1, 6, none⟩ (.int .i64 50)).setCell ⟨w.heap.size + 1, 7, none⟩ (.int .i64 (-50))) w.heap.size zeroSp) := Lib.hid ⟨by
    rw [heap_setCell_other _ _ _ _ (by show w.heap.size ≠ w.heap.size + 1; omega), heap_setCell_other _ _ _ _ (by show w.heap.size ≠ w.heap.size + 1; omega)]
    exact HB3.out.1, rfl⟩
  have B5 : Hid (Below w.heap.size w ((W2.setCell ⟨w.heap.size + 1, 6, none⟩ (.int .i64 50)).setCell ⟨w.heap.size + 1, 7, none⟩ (.int .i64 (-50)))) := Lib.hid ((B2.out.setCell (by show w.heap.size ≤ w.heap.size + 1; omega) _).setCell (by show w.heap.size ≤ w.heap.size + 1; omega) _)
  have B6 := Lib.hid (below_row' (g := w.heap.size) (cs := smallSp.cells) B5.out (Nat.le_refl _))
  have HB6 := Lib.hid (box_set HB5.out (s := smallSp) rfl)
  go_enter Try.func28, Try.ntmps28
  go_wp2_with (first
    | ((with_reducible refine wl_store_sp small0 (w.heap.size + 1) HB1.out rfl ?_ ?_ ?_); rfl; rfl; rw [HW2.out])
    | ((with_reducible refine wl_load_sp (w.heap.size + 1) HB4.out ?_ ?_ ?_); rfl; rfl)
    | ((with_reducible refine wl_store_sp smallSp w.heap.size HB5.out rfl ?_ ?_ ?_); rfl; rfl))
  exact bodyPost_ret (ret_sp rfl _ _ w.heap.size rfl HB6.out) rfl ⟨rfl, B6.out⟩
end Go.Proofs.Ytlnakhbcefmiaaa
