/- The statements' own check. -/
import Derived.Test.YtgihmkdmcpcbeaaTh
namespace Go.Proofs.Ytgihmkdmcpcbeaa
open Go.RowKit Go.Shelf
set_option linter.unusedVariables false
set_option linter.unusedSimpArgs false

def ks10 : Sp := ⟨1, 1, 1, 1, 0, 9, [50, -40, 0, 0, 0, 0, 0, 0, 0, 0, 0, 0, 0, 0, 0, 0], 30, 0, 10⟩
def kt10 : Sp := ⟨2, 1, 1, 1, 0, 9, [50, -40, 0, 0, 0, 0, 0, 0, 0, 0, 0, 0, 0, 0, 0, 0], 10, 0, 10⟩
def k010 : Sp := ⟨1, 1, 1, 1, 0, 9, [0, 0, 0, 0, 0, 0, 0, 0, 0, 0, 0, 0, 0, 0, 0, 0], 30, 0, 10⟩
def k110 : Sp := ⟨1, 1, 1, 1, 0, 9, [50, 0, 0, 0, 0, 0, 0, 0, 0, 0, 0, 0, 0, 0, 0, 0], 30, 0, 10⟩
def k210 : Sp := ⟨2, 1, 1, 1, 0, 9, [50, -40, 0, 0, 0, 0, 0, 0, 0, 0, 0, 0, 0, 0, 0, 0], 30, 0, 10⟩
theorem ks_ok10 : ks10.ok := by
  refine ⟨?_, ?_, ?_, ?_, ?_, ?_, ?_, ?_, ?_, ?_, ?_⟩ <;> simp [ks10, I64]
theorem kt_ok10 : kt10.ok := by
  refine ⟨?_, ?_, ?_, ?_, ?_, ?_, ?_, ?_, ?_, ?_, ?_⟩ <;> simp [kt10, I64]
def kl10 : List Lq := [⟨ks10, 3, rfl⟩, ⟨kt10, -3, rfl⟩]
theorem kl_ok10 : ∀ x, x ∈ kl10 → x.ok := by
  intro x hx
  simp only [kl10, List.mem_cons, List.not_mem_nil, or_false] at hx
  rcases hx with rfl | rfl
  · exact ⟨ks_ok10, by show I64 3; unfold I64; omega⟩
  · exact ⟨kt_ok10, by show I64 (-3); unfold I64; omega⟩
theorem kl_e10 : marE kl10 = 0 := by decide +kernel
theorem kl_n10 : marN kl10 = 240 := by decide +kernel
theorem ks_n10 : scanN ks10.sh (-3) = 150 ∧ scanE ks10.sh (-3) = 0 := by decide +kernel
section
variable {ops : Array Oper} {rest : List Oper} {a : Act} {w : World} {Q : Exit → Act → World → Prop} {d : Option Nat} {x y : Operand} {ty : TypeId} {ps : String} {af : Array Edge}
theorem wl_kb10 (h : wpList Try.prog ops Q rest (a.put d (.agg k010.cells)) w) :
    wpList Try.prog ops Q ({ dst := d, op := .build 32 #[(0, .const (.int .u32 1)), (1, .const (.int .u8 1)), (2, .const (.int .i64 1)), (3, .const (.int .i64 1)), (5, .const (.int .i64 9)), (7, .const (.int .i64 30)), (9, .const (.int .i64 10))], type := ty, pos := ps, after := af, guard := none } :: rest) a w := by
  have e : (#[(0, Operand.const (.int .u32 1)), (1, .const (.int .u8 1)), (2, .const (.int .i64 1)), (3, .const (.int .i64 1)), (5, .const (.int .i64 9)), (7, .const (.int .i64 30)), (9, .const (.int .i64 10))].map fun (i, x) => (i, a.eval x)).toList = [(0, Value.int .u32 1), (1, .int .u8 1), (2, .int .i64 1), (3, .int .i64 1), (5, .int .i64 9), (7, .int .i64 30), (9, .int .i64 10)] := by simp [Act.eval]
  have b : Program.built Try.prog 32 [(0, Value.int .u32 1), (1, .int .u8 1), (2, .int .i64 1), (3, .int .i64 1), (5, .int .i64 9), (7, .int .i64 30), (9, .int .i64 10)] = some k010.cells := by kernel_rfl
  refine wpList_build rfl 32 _ rfl (by rw [e, b]; rfl) ?_
  rw [e, b]
  exact h
theorem wl_lb10 {q : Int} (s : Sp) (hs : s.sh.length = 16) (hb : Program.built Try.prog 34 [(0, .agg s.cells), (1, .int .i64 q)] = some (EL.cells ⟨s, q, hs⟩).toArray) (hx : a.eval x = .agg s.cells) (h : wpList Try.prog ops Q rest (a.put d (.agg (EL.cells ⟨s, q, hs⟩).toArray)) w) :
    wpList Try.prog ops Q ({ dst := d, op := .build 34 #[(0, x), (1, .const (.int .i64 q))], type := ty, pos := ps, after := af, guard := none } :: rest) a w := by
  have e : (#[(0, x), (1, Operand.const (.int .i64 q))].map fun (i, x) => (i, a.eval x)).toList = [(0, Value.agg s.cells), (1, .int .i64 q)] := by
    rw [show (#[(0, x), (1, Operand.const (.int .i64 q))].map fun (i, x) => (i, a.eval x)).toList = [(0, a.eval x), (1, a.eval (.const (.int .i64 q)))] from by simp, hx]; rfl
  refine wpList_build rfl 34 _ rfl (by rw [e, hb]; rfl) ?_
  rw [e, hb]
  exact h
theorem wl_kl10 (hx : a.eval x = .agg (EL.cells ⟨ks10, 3, rfl⟩).toArray) (hy : a.eval y = .agg (EL.cells ⟨kt10, -3, rfl⟩).toArray)
    (h : wpList Try.prog ops Q rest (a.put d (.slice (some ⟨w.heap.size, 0, none⟩) 2 2)) (w.alloc (.cells (EL.flat kl10).toArray 34))) :
    wpList Try.prog ops Q ({ dst := d, op := .buildSlice 28 2 #[(0, x), (1, y)], type := ty, pos := ps, after := af, guard := none } :: rest) a w := by
  have hi : (Try.prog.info? 34).map (fun i => (i.zero, i.size, i.bytes)) = some (some (.agg (EL.cells zeroLq).toArray), 26, 200) := by kernel_rfl
  obtain ⟨ie, h1, h2, h3, _⟩ := info_parts hi
  refine wpList_buildSlice rfl 28 34 2 #[(0, x), (1, y)] rfl (EL.flat kl10).toArray ie _ TL.und h1 h2 (by rw [h3]; decide) (by rw [h3]; decide) ?_ h
  rw [h3, show ((#[(0, x), (1, y)] : Array (Nat × Operand)).map fun (i, x) => (i, a.eval x)).toList = [(0, a.eval x), (1, a.eval y)] from by simp, hx, hy]
  kernel_rfl
end
set_option maxRecDepth 100000 in
set_option maxHeartbeats 8000000 in
theorem known10 (w : World) : Calls Try.prog 11 #[] w fun e w' => e = .returned (.bool true) ∧ Below w.heap.size w w' := by
  have Z := zero_sp
  obtain ⟨g1, hg1⟩ : ∃ g, w.heap.size = g := ⟨_, rfl⟩
  obtain ⟨W1, hW1⟩ : ∃ W, (w.alloc (.cells zeroSp.cells 32)).setRow w.heap.size k010.cells = W := ⟨_, rfl⟩
  have HB0 := Lib.hid (box_new w (s := zeroSp) rfl)
  have b1 : Box W1 w.heap.size k010 := by rw [← hW1]; exact box_set HB0.out rfl
  have B1 : Below w.heap.size w W1 := by rw [← hW1]; exact below_row' (below_new _ _) (Nat.le_refl _)
  have f1 := b1.free 6
  have d1 : W1.cell? ⟨w.heap.size, 6, none⟩ = some (.int .i64 0) := by rw [b1.cell]; rfl
  obtain ⟨W2, hW2⟩ : ∃ W, W1.setCell ⟨w.heap.size, 6, none⟩ (.int .i64 50) = W := ⟨_, rfl⟩
  have b2 : Box W2 w.heap.size k110 := by rw [← hW2]; exact box_cell b1 rfl rfl
  have B2 : Below w.heap.size w W2 := by rw [← hW2]; exact B1.setCell (Nat.le_refl _) _
  have f2 := b2.free 7
  have d2 : W2.cell? ⟨w.heap.size, 7, none⟩ = some (.int .i64 0) := by rw [b2.cell]; rfl
  obtain ⟨W3, hW3⟩ : ∃ W, W2.setCell ⟨w.heap.size, 7, none⟩ (.int .i64 (-40)) = W := ⟨_, rfl⟩
  have b3 : Box W3 w.heap.size ks10 := by rw [← hW3]; exact box_cell b2 rfl rfl
  have B3 : Below w.heap.size w W3 := by rw [← hW3]; exact B2.setCell (Nat.le_refl _) _
  have HB3 := Lib.hid b3
  have l3 : w.heap.size < W3.heap.size := (Array.getElem?_eq_some_iff.1 b3.1).1
  obtain ⟨W4, hW4⟩ : ∃ W, (W3.alloc (.cells zeroSp.cells 32)).setRow W3.heap.size ks10.cells = W := ⟨_, rfl⟩
  have HB3' := Lib.hid (box_new W3 (s := zeroSp) rfl)
  have b4 : Box W4 W3.heap.size ks10 := by rw [← hW4]; exact box_set HB3'.out rfl
  have B4 : Below W3.heap.size W3 W4 := by rw [← hW4]; exact below_row' (below_new _ _) (Nat.le_refl _)
  have f4 := b4.free 0
  have d4 : W4.cell? ⟨W3.heap.size, 0, none⟩ = some (.int .u32 1) := by rw [b4.cell]; rfl
  obtain ⟨W5, hW5⟩ : ∃ W, W4.setCell ⟨W3.heap.size, 0, none⟩ (.int .u32 2) = W := ⟨_, rfl⟩
  have b5 : Box W5 W3.heap.size k210 := by rw [← hW5]; exact box_cell b4 rfl rfl
  have B5 : Below W3.heap.size W3 W5 := by rw [← hW5]; exact B4.setCell (Nat.le_refl _) _
  have f5 := b5.free 22
  have d5 : W5.cell? ⟨W3.heap.size, 22, none⟩ = some (.int .i64 30) := by rw [b5.cell]; rfl
  obtain ⟨W6, hW6⟩ : ∃ W, W5.setCell ⟨W3.heap.size, 22, none⟩ (.int .i64 10) = W := ⟨_, rfl⟩
  have b6 : Box W6 W3.heap.size kt10 := by rw [← hW6]; exact box_cell b5 rfl rfl
  have B6 : Below W3.heap.size W3 W6 := by rw [← hW6]; exact B5.setCell (Nat.le_refl _) _
  have b6' : Box W6 w.heap.size ks10 := b3.below B6
  obtain ⟨W7, hW7⟩ : ∃ W, W6.alloc (.cells (EL.flat kl10).toArray 34) = W := ⟨_, rfl⟩
  have B7 : Below W6.heap.size W6 W7 := by rw [← hW7]; exact below_new _ _
  have r7 : EL.Rd W7 (some ⟨W6.heap.size, 0, none⟩) 2 kl10 := ⟨rfl, (fun h => by cases h), fun _ a e => by
    cases e
    refine ⟨rfl, fun j u hj => ?_⟩
    rw [Nat.zero_add, ← hW7, cell_of_row _ _ _ _ _ _ (heap_alloc_new W6 _)]
    simpa using hj⟩
  have B07 : Below w.heap.size w W7 := B3.trans ((B6.mono (Nat.le_of_lt l3)).trans (B7.mono (by have := B6.size; omega)))
  have M := Lib.hid (margin10 _ 2 2 kl10 W7 r7 kl_ok10 (by unfold maxLen; omega))
  rw [kl_e10, kl_n10] at M
  have S := Lib.hid fun W => scan10 ks10.sh (-3) W rfl ks_ok10.sh (by unfold I64; omega)
  rw [ks_n10.1, ks_n10.2] at S
  have AR := Lib.hid fun (W : World) (q : Below W7.heap.size W7 W) => (show W.rangeAt w.heap.size 6 (ks10.sh.map (Value.int .i64)) from ((b6'.below B7).below q).range)
  have HB6 := Lib.hid b6
  have HB6' := Lib.hid b6'
  have B07' := Lib.hid B07
  have HW1 := Lib.hid hW1
  have HW2 := Lib.hid hW2
  have HW3 := Lib.hid hW3
  have HW4 := Lib.hid hW4
  have HW5 := Lib.hid hW5
  have HW6 := Lib.hid hW6
  have HW7 := Lib.hid hW7
  have LB1 := Lib.hid (show Program.built Try.prog 34 [(0, .agg ks10.cells), (1, .int .i64 3)] = some (EL.cells ⟨ks10, 3, rfl⟩).toArray by kernel_rfl)
  have LB2 := Lib.hid (show Program.built Try.prog 34 [(0, .agg kt10.cells), (1, .int .i64 (-3))] = some (EL.cells ⟨kt10, -3, rfl⟩).toArray by kernel_rfl)
  clear b1 B1 b2 B2 b3 B3 l3 b4 B4 b5 B5 b6 B6 b6' B7 r7 B07 hW1 hW2 hW3 hW4 hW5 hW6 hW7 hg1
  go_enter Try.func11, Try.ntmps11
  go_wp2_with (first
    | (rw [HW2.out])
    | (rw [HW3.out])
    | (rw [HW5.out])
    | (rw [HW6.out])
    | (with_reducible refine wl_kb10 ?_)
    | ((with_reducible refine wl_store_sp k010 w.heap.size HB0.out rfl ?_ ?_ ?_); rfl; rfl; rw [HW1.out])
    | ((with_reducible refine wl_store_sp ks10 W3.heap.size HB3'.out rfl ?_ ?_ ?_); rfl; rfl; rw [HW4.out])
    | ((with_reducible refine wl_load_sp w.heap.size HB3.out ?_ ?_ ?_); rfl; rfl)
    | ((with_reducible refine wl_load_sp w.heap.size HB6'.out ?_ ?_ ?_); rfl; rfl)
    | ((with_reducible refine wl_load_sp W3.heap.size HB6.out ?_ ?_ ?_); rfl; rfl)
    | ((with_reducible refine wl_lb10 ks10 rfl LB1.out ?_ ?_); rfl)
    | ((with_reducible refine wl_lb10 kt10 rfl LB2.out ?_ ?_); rfl)
    | ((with_reducible refine wl_kl10 ?_ ?_ ?_); rfl; rfl; rw [HW7.out]))
  refine M.out.mono ?_; rintro e w8 ⟨rfl, q8⟩
  have A8 := Lib.hid (AR.out w8 q8)
  have B8 := Lib.hid (B07'.out.trans (q8.mono B07'.out.size))
  clear q8
  go_wp2_with ((with_reducible refine wl_arr10 (l := ks10.sh) rfl w.heap.size 6 A8.out ?_ ?_ ?_); rfl; rfl)
  refine (S.out _).mono ?_; rintro e w9 ⟨rfl, q9⟩
  have B9 := Lib.hid (B8.out.trans (q9.mono B8.out.size))
  clear q9
  go_wp2_with fail
  go_ret
  exact ⟨rfl, B9.out⟩
end Go.Proofs.Ytgihmkdmcpcbeaa
