/- What is asked of the program's gate; the statements' own: small, known. -/
import Derived.Test.YtmelpikncdnloaaGta
namespace Go.Proofs.Ytmelpikncdnloaa
open Go.RowKit
set_option linter.unusedVariables false
set_option linter.unusedSimpArgs false

/-- What is asked of the program. -/
structure GateK : Prop where
  check : ∀ (g : Gt) (w : World), g.ok → Calls Try.prog 6 #[.agg (EG.cells g).toArray] w fun e w' => e = .returned (.int .i64 (chk g)) ∧ Below w.heap.size w w'
  cancel : ∀ (nu ca : Int) (ki de : Bool) (w : World), 0 ≤ nu ∧ nu ≤ 4294967295 → I64 ca → Calls Try.prog 8 #[.agg #[.int .u32 nu, .int .i64 ca, .bool ki, .bool de]] w fun e w' => e = .returned (.int .i64 (if nu = 0 then 2 else 0)) ∧ Below w.heap.size w w'
def k012 : Sp := ⟨1, 1, 5, 10, 100, 50, [0, 0, 0, 0, 0, 0, 0, 0, 0, 0, 0, 0, 0, 0, 0, 0], 0, 0, 1000⟩
def k112 : Sp := ⟨1, 1, 5, 10, 100, 50, [50, 0, 0, 0, 0, 0, 0, 0, 0, 0, 0, 0, 0, 0, 0, 0], 0, 0, 1000⟩
def ks12 : Sp := ⟨1, 1, 5, 10, 100, 50, [50, -50, 0, 0, 0, 0, 0, 0, 0, 0, 0, 0, 0, 0, 0, 0], 0, 0, 1000⟩
theorem ks_ok12 : ks12.ok := by
  refine ⟨?_, ?_, ?_, ?_, ?_, ?_, ?_, ?_, ?_, ?_, ?_⟩ <;> simp [ks12, I64]
def kgt (b : Bool) (px qt : Int) : Gt := ⟨ks12, 1, 1000, 1, 0, false, false, 20, 10, 0, b, px, qt, rfl⟩
theorem kgt_ok {b : Bool} {px qt : Int} (h1 : I64 px) (h2 : I64 qt) : (kgt b px qt).ok := by
  refine ⟨ks_ok12, ?_, ?_, ?_, ?_, ?_, ?_, ?_, h1, h2⟩ <;> simp [kgt, I64]
theorem kgt_1 : chk (kgt true 1005 20) = 0 := by decide +kernel
theorem kgt_2 : chk (kgt true 1005 30) = 125 := by decide +kernel
theorem kgt_3 : chk (kgt false 1005 15) = 123 := by decide +kernel
def kct : Array Value := (ks12.cellL ++ [Value.int .u8 1, Value.int .i64 1000]).toArray
def kac : Array Value := #[Value.int .u32 1, Value.int .i64 0, Value.bool false, Value.bool false]
section
variable {ops : Array Oper} {rest : List Oper} {a : Act} {w : World} {Q : Exit → Act → World → Prop} {d : Option Nat} {x y z u v : Operand} {ty : TypeId} {ps : String} {af : Array Edge}
theorem wl_kb12 (h : wpList Try.prog ops Q rest (a.put d (.agg k012.cells)) w) :
    wpList Try.prog ops Q ({ dst := d, op := .build 25 #[(0, .const (.int .u32 1)), (1, .const (.int .u8 1)), (2, .const (.int .i64 5)), (3, .const (.int .i64 10)), (4, .const (.int .i64 100)), (5, .const (.int .i64 50)), (9, .const (.int .i64 1000))], type := ty, pos := ps, after := af, guard := none } :: rest) a w := by
  have e : (#[(0, Operand.const (.int .u32 1)), (1, .const (.int .u8 1)), (2, .const (.int .i64 5)), (3, .const (.int .i64 10)), (4, .const (.int .i64 100)), (5, .const (.int .i64 50)), (9, .const (.int .i64 1000))].map fun (i, x) => (i, a.eval x)).toList = [(0, Value.int .u32 1), (1, .int .u8 1), (2, .int .i64 5), (3, .int .i64 10), (4, .int .i64 100), (5, .int .i64 50), (9, .int .i64 1000)] := by simp [Act.eval]
  have b : Program.built Try.prog 25 [(0, Value.int .u32 1), (1, .int .u8 1), (2, .int .i64 5), (3, .int .i64 10), (4, .int .i64 100), (5, .int .i64 50), (9, .int .i64 1000)] = some k012.cells := by kernel_rfl
  refine wpList_build rfl 25 _ rfl (by rw [e, b]; rfl) ?_
  rw [e, b]
  exact h
theorem wl_cb12 (hx : a.eval x = .agg ks12.cells) (h : wpList Try.prog ops Q rest (a.put d (.agg kct)) w) :
    wpList Try.prog ops Q ({ dst := d, op := .build 28 #[(0, x), (1, .const (.int .u8 1)), (2, .const (.int .i64 1000))], type := ty, pos := ps, after := af, guard := none } :: rest) a w := by
  have e : (#[(0, x), (1, Operand.const (.int .u8 1)), (2, .const (.int .i64 1000))].map fun (i, x) => (i, a.eval x)).toList = [(0, Value.agg ks12.cells), (1, .int .u8 1), (2, .int .i64 1000)] := by
    rw [show (#[(0, x), (1, Operand.const (.int .u8 1)), (2, .const (.int .i64 1000))].map fun (i, x) => (i, a.eval x)).toList = [(0, a.eval x), (1, a.eval (.const (.int .u8 1))), (2, a.eval (.const (.int .i64 1000)))] from by simp, hx]; rfl
  have b : Program.built Try.prog 28 [(0, Value.agg ks12.cells), (1, .int .u8 1), (2, .int .i64 1000)] = some kct := by kernel_rfl
  refine wpList_build rfl 28 _ rfl (by rw [e, b]; rfl) ?_
  rw [e, b]
  exact h
theorem wl_ab12 (h : wpList Try.prog ops Q rest (a.put d (.agg kac)) w) :
    wpList Try.prog ops Q ({ dst := d, op := .build 30 #[(0, .const (.int .u32 1))], type := ty, pos := ps, after := af, guard := none } :: rest) a w := by
  have e : (#[(0, Operand.const (.int .u32 1))].map fun (i, x) => (i, a.eval x)).toList = [(0, Value.int .u32 1)] := by simp [Act.eval]
  have b : Program.built Try.prog 30 [(0, Value.int .u32 1)] = some kac := by kernel_rfl
  refine wpList_build rfl 30 _ rfl (by rw [e, b]; rfl) ?_
  rw [e, b]
  exact h
theorem wl_gb12 {b : Bool} {px qt : Int} (hx : a.eval x = .agg kct) (hy : a.eval y = .agg kac) (hz : a.eval z = .bool b) (hu : a.eval u = .int .i64 px) (hv : a.eval v = .int .i64 qt) (h : wpList Try.prog ops Q rest (a.put d (.agg (EG.cells (kgt b px qt)).toArray)) w) :
    wpList Try.prog ops Q ({ dst := d, op := .build 32 #[(0, x), (1, y), (2, .const (.int .i64 20)), (3, .const (.int .i64 10)), (5, z), (6, u), (7, v)], type := ty, pos := ps, after := af, guard := none } :: rest) a w := by
  have e : (#[(0, x), (1, y), (2, Operand.const (.int .i64 20)), (3, .const (.int .i64 10)), (5, z), (6, u), (7, v)].map fun (i, x) => (i, a.eval x)).toList = [(0, .agg kct), (1, .agg kac), (2, .int .i64 20), (3, .int .i64 10), (5, .bool b), (6, .int .i64 px), (7, .int .i64 qt)] := by
    rw [show (#[(0, x), (1, y), (2, Operand.const (.int .i64 20)), (3, .const (.int .i64 10)), (5, z), (6, u), (7, v)].map fun (i, x) => (i, a.eval x)).toList = [(0, a.eval x), (1, a.eval y), (2, a.eval (.const (.int .i64 20))), (3, a.eval (.const (.int .i64 10))), (5, a.eval z), (6, a.eval u), (7, a.eval v)] from by simp, hx, hy, hz, hu, hv]; rfl
  have bb : Program.built Try.prog 32 [(0, .agg kct), (1, .agg kac), (2, .int .i64 20), (3, .int .i64 10), (5, .bool b), (6, .int .i64 px), (7, .int .i64 qt)] = some (EG.cells (kgt b px qt)).toArray := by kernel_rfl
  refine wpList_build rfl 32 _ rfl (by rw [e, bb]; rfl) ?_
  rw [e, bb]
  exact h
end
set_option maxRecDepth 100000 in
set_option maxHeartbeats 4000000 in
theorem small12 (b : Bool) (px qt : Int) (w : World) : Calls Try.prog 18 #[.bool b, .int .i64 px, .int .i64 qt] w fun e w' => e = .returned (.agg (EG.cells (kgt b px qt)).toArray) ∧ Below w.heap.size w w' := by
  have hzs := zero_s12
  have hzg := zero_g12
  obtain ⟨W0, hW0⟩ : ∃ W, w.alloc (.cells (EG.cells zeroGt).toArray 32) = W := ⟨_, rfl⟩
  have x0 : EG.Bx 32 W0 w.heap.size zeroGt := by rw [← hW0]; exact gbx_new w _
  have b0 : Below w.heap.size w W0 := by rw [← hW0]; exact below_new w _
  obtain ⟨W1, hW1⟩ : ∃ W, (W0.alloc (.cells zeroSp.cells 25)).setRow W0.heap.size k012.cells = W := ⟨_, rfl⟩
  have HB0 := Lib.hid (box_new W0 (s := zeroSp) rfl)
  have b1 : Box W1 W0.heap.size k012 := by rw [← hW1]; exact box_set HB0.out rfl
  have B1 : Below W0.heap.size W0 W1 := by rw [← hW1]; exact below_row' (below_new _ _) (Nat.le_refl _)
  have f1 := b1.free 6
  have d1 : W1.cell? ⟨W0.heap.size, 6, none⟩ = some (.int .i64 0) := by rw [b1.cell]; rfl
  obtain ⟨W2, hW2⟩ : ∃ W, W1.setCell ⟨W0.heap.size, 6, none⟩ (.int .i64 50) = W := ⟨_, rfl⟩
  have b2 : Box W2 W0.heap.size k112 := by rw [← hW2]; exact box_cell b1 rfl rfl
  have B2 : Below W0.heap.size W0 W2 := by rw [← hW2]; exact B1.setCell (Nat.le_refl _) _
  have f2 := b2.free 7
  have d2 : W2.cell? ⟨W0.heap.size, 7, none⟩ = some (.int .i64 0) := by rw [b2.cell]; rfl
  obtain ⟨W3, hW3⟩ : ∃ W, W2.setCell ⟨W0.heap.size, 7, none⟩ (.int .i64 (-50)) = W := ⟨_, rfl⟩
  have b3 : Box W3 W0.heap.size ks12 := by rw [← hW3]; exact box_cell b2 rfl rfl
  have B3 : Below W0.heap.size W0 W3 := by rw [← hW3]; exact B2.setCell (Nat.le_refl _) _
  have HB3 := Lib.hid b3
  have X3 := Lib.hid (gbx_below x0 B3)
  have BB := Lib.hid (b0.trans (B3.mono b0.size))
  have HW0 := Lib.hid hW0
  have HW1 := Lib.hid hW1
  have HW2 := Lib.hid hW2
  have HW3 := Lib.hid hW3
  clear x0 b0 b1 B1 b2 B2 b3 B3 hW0 hW1 hW2 hW3
  go_enter Try.func18, Try.ntmps18
  go_wp2_with (first
    | (rw [HW0.out])
    | (rw [HW2.out])
    | (rw [HW3.out])
    | (with_reducible refine wl_kb12 ?_)
    | ((with_reducible refine wl_store_sp k012 W0.heap.size HB0.out rfl ?_ ?_ ?_); rfl; rfl; rw [HW1.out])
    | ((with_reducible refine wl_load_sp W0.heap.size HB3.out ?_ ?_ ?_); rfl; rfl)
    | ((with_reducible refine wl_cb12 ?_ ?_); rfl)
    | (with_reducible refine wl_ab12 ?_)
    | ((with_reducible refine wl_gb12 (b := b) (px := px) (qt := qt) ?_ ?_ ?_ ?_ ?_ ?_); rfl; rfl; rfl; rfl; rfl)
    | (refine rwl_store TG (kgt b px qt) w.heap.size X3.out rfl rfl ?_))
  exact bodyPost_ret (rret1 TG rfl _ _ w.heap.size rfl (gbx_set X3.out)) rfl ⟨rfl, below_row0 BB.out (Nat.le_refl _)⟩
set_option maxRecDepth 100000 in
set_option maxHeartbeats 2000000 in
theorem known12 (K : GateK) (w : World) : Calls Try.prog 9 #[] w fun e w' => e = .returned (.bool true) ∧ Below w.heap.size w w' := by
  have SM := Lib.hid fun b px qt W => small12 b px qt W
  have C1 := Lib.hid fun W => K.check (kgt true 1005 20) W (kgt_ok (by unfold I64; omega) (by unfold I64; omega))
  have C2 := Lib.hid fun W => K.check (kgt true 1005 30) W (kgt_ok (by unfold I64; omega) (by unfold I64; omega))
  have C3 := Lib.hid fun W => K.check (kgt false 1005 15) W (kgt_ok (by unfold I64; omega) (by unfold I64; omega))
  rw [kgt_1] at C1
  rw [kgt_2] at C2
  rw [kgt_3] at C3
  clear K
  go_enter Try.func9, Try.ntmps9
  go_wp2_with fail
  refine (SM.out _ _ _ _).mono ?_; rintro e w2 ⟨rfl, q2⟩
  have Q2 := Lib.hid q2
  clear q2
  go_wp2_with fail
  refine (C1.out _).mono ?_; rintro e w3 ⟨rfl, q3⟩
  have Q3 := Lib.hid (Q2.out.trans (q3.mono Q2.out.size))
  clear q3
  go_wp2_with fail
  refine (SM.out _ _ _ _).mono ?_; rintro e w4 ⟨rfl, q4⟩
  have Q4 := Lib.hid (Q3.out.trans (q4.mono Q3.out.size))
  clear q4
  go_wp2_with fail
  refine (C2.out _).mono ?_; rintro e w5 ⟨rfl, q5⟩
  have Q5 := Lib.hid (Q4.out.trans (q5.mono Q4.out.size))
  clear q5
  go_wp2_with fail
  refine (SM.out _ _ _ _).mono ?_; rintro e w6 ⟨rfl, q6⟩
  have Q6 := Lib.hid (Q5.out.trans (q6.mono Q5.out.size))
  clear q6
  go_wp2_with fail
  refine (C3.out _).mono ?_; rintro e w7 ⟨rfl, q7⟩
  have Q7 := Lib.hid (Q6.out.trans (q7.mono Q6.out.size))
  clear q7
  go_wp2_with fail
  go_ret
  exact ⟨rfl, Q7.out⟩
end Go.Proofs.Ytmelpikncdnloaa
