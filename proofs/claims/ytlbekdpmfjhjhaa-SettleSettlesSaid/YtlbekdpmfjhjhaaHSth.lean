/- The statements' own check. -/
import Derived.Great.BuildSlice
import Derived.Laws.Tables
import Derived.Test.YtlbekdpmfjhjhaaHStg
namespace Go.Proofs.Ytlbekdpmfjhjhaa
open Go.RowKit
set_option linter.unusedVariables false
set_option linter.unusedSimpArgs false

def kd1 : Du := ⟨1, 10, -30⟩
def kd2 : Du := ⟨2, 0, 20⟩
def kd3 : Du := ⟨3, 0, 10⟩
def kx1 : Sd := ⟨1, 0, true, 0⟩
def kx2 : Sd := ⟨2, 10, false, 10⟩
def kx3 : Sd := ⟨3, 5, false, 5⟩
theorem known_e : errS 5 [kd1, kd2, kd3] = 0 := by decide +kernel
theorem known_f : fundS 5 [kd1, kd2, kd3] = 0 := by decide +kernel
theorem known_o : outS 5 [kd1, kd2, kd3] = [kx1, kx2, kx3] := by kernel_rfl
theorem kd_ok : ∀ d, d ∈ [kd1, kd2, kd3] → d.ok := by
  intro d hd
  simp only [List.mem_cons, List.not_mem_nil, or_false] at hd
  rcases hd with rfl | rfl | rfl <;> refine ⟨by decide, ?_, ?_⟩ <;> simp [I64, kd1, kd2, kd3]
theorem kx_ok : ∀ d, d ∈ [kx1, kx2, kx3] → d.ok := by
  intro d hd
  simp only [List.mem_cons, List.not_mem_nil, or_false] at hd
  rcases hd with rfl | rfl | rfl <;> refine ⟨by decide, ?_, ?_⟩ <;> simp [I64, kx1, kx2, kx3]
section
variable {ops : Array Oper} {rest : List Oper} {a : Act} {w : World} {Q : Exit → Act → World → Prop} {d : Option Nat} {x y z : Operand} {ty : TypeId} {ps : String} {af : Array Edge} {gd : Option (Nat × Bool)}
theorem wl_kd1 (hw : Region.wanted ⟨d, .build 30 #[(0, .const (.int .u32 1)), (1, .const (.int .i64 10)), (2, .const (.int .i64 (-30)))], ty, ps, af, gd⟩ (yielded ops a.tmps) = true) (h : wpList Try.prog ops Q rest (a.put d (.agg (ED.cells kd1).toArray)) w) :
    wpList Try.prog ops Q (⟨d, .build 30 #[(0, .const (.int .u32 1)), (1, .const (.int .i64 10)), (2, .const (.int .i64 (-30)))], ty, ps, af, gd⟩ :: rest) a w := by
  have e : (#[(0, Operand.const (.int .u32 1)), (1, .const (.int .i64 10)), (2, .const (.int .i64 (-30)))].map fun (i, x) => (i, a.eval x)).toList = [(0, Value.int .u32 1), (1, .int .i64 10), (2, .int .i64 (-30))] := by simp [Act.eval]
  have b : Program.built Try.prog 30 [(0, Value.int .u32 1), (1, .int .i64 10), (2, .int .i64 (-30))] = some (ED.cells kd1).toArray := by kernel_rfl
  exact BigFrame.wpList_want hw fun _ hK => wp_build 30 _ rfl (by rw [e, b]; rfl) (by rw [e, b]; exact hK _ _ h)
theorem wl_kd2 (hw : Region.wanted ⟨d, .build 30 #[(0, .const (.int .u32 2)), (2, .const (.int .i64 20))], ty, ps, af, gd⟩ (yielded ops a.tmps) = true) (h : wpList Try.prog ops Q rest (a.put d (.agg (ED.cells kd2).toArray)) w) :
    wpList Try.prog ops Q (⟨d, .build 30 #[(0, .const (.int .u32 2)), (2, .const (.int .i64 20))], ty, ps, af, gd⟩ :: rest) a w := by
  have e : (#[(0, Operand.const (.int .u32 2)), (2, .const (.int .i64 20))].map fun (i, x) => (i, a.eval x)).toList = [(0, Value.int .u32 2), (2, .int .i64 20)] := by simp [Act.eval]
  have b : Program.built Try.prog 30 [(0, Value.int .u32 2), (2, .int .i64 20)] = some (ED.cells kd2).toArray := by kernel_rfl
  exact BigFrame.wpList_want hw fun _ hK => wp_build 30 _ rfl (by rw [e, b]; rfl) (by rw [e, b]; exact hK _ _ h)
theorem wl_kd3 (hw : Region.wanted ⟨d, .build 30 #[(0, .const (.int .u32 3)), (2, .const (.int .i64 10))], ty, ps, af, gd⟩ (yielded ops a.tmps) = true) (h : wpList Try.prog ops Q rest (a.put d (.agg (ED.cells kd3).toArray)) w) :
    wpList Try.prog ops Q (⟨d, .build 30 #[(0, .const (.int .u32 3)), (2, .const (.int .i64 10))], ty, ps, af, gd⟩ :: rest) a w := by
  have e : (#[(0, Operand.const (.int .u32 3)), (2, .const (.int .i64 10))].map fun (i, x) => (i, a.eval x)).toList = [(0, Value.int .u32 3), (2, .int .i64 10)] := by simp [Act.eval]
  have b : Program.built Try.prog 30 [(0, Value.int .u32 3), (2, .int .i64 10)] = some (ED.cells kd3).toArray := by kernel_rfl
  exact BigFrame.wpList_want hw fun _ hK => wp_build 30 _ rfl (by rw [e, b]; rfl) (by rw [e, b]; exact hK _ _ h)
theorem wl_kx1 (hw : Region.wanted ⟨d, .build 34 #[(0, .const (.int .u32 1)), (2, .const (.bool true))], ty, ps, af, gd⟩ (yielded ops a.tmps) = true) (h : wpList Try.prog ops Q rest (a.put d (.agg (ESd.cells kx1).toArray)) w) :
    wpList Try.prog ops Q (⟨d, .build 34 #[(0, .const (.int .u32 1)), (2, .const (.bool true))], ty, ps, af, gd⟩ :: rest) a w := by
  have e : (#[(0, Operand.const (.int .u32 1)), (2, .const (.bool true))].map fun (i, x) => (i, a.eval x)).toList = [(0, Value.int .u32 1), (2, .bool true)] := by simp [Act.eval]
  have b : Program.built Try.prog 34 [(0, Value.int .u32 1), (2, .bool true)] = some (ESd.cells kx1).toArray := by kernel_rfl
  exact BigFrame.wpList_want hw fun _ hK => wp_build 34 _ rfl (by rw [e, b]; rfl) (by rw [e, b]; exact hK _ _ h)
theorem wl_kx2 (hw : Region.wanted ⟨d, .build 34 #[(0, .const (.int .u32 2)), (1, .const (.int .i64 10)), (3, .const (.int .i64 10))], ty, ps, af, gd⟩ (yielded ops a.tmps) = true) (h : wpList Try.prog ops Q rest (a.put d (.agg (ESd.cells kx2).toArray)) w) :
    wpList Try.prog ops Q (⟨d, .build 34 #[(0, .const (.int .u32 2)), (1, .const (.int .i64 10)), (3, .const (.int .i64 10))], ty, ps, af, gd⟩ :: rest) a w := by
  have e : (#[(0, Operand.const (.int .u32 2)), (1, .const (.int .i64 10)), (3, .const (.int .i64 10))].map fun (i, x) => (i, a.eval x)).toList = [(0, Value.int .u32 2), (1, .int .i64 10), (3, .int .i64 10)] := by simp [Act.eval]
  have b : Program.built Try.prog 34 [(0, Value.int .u32 2), (1, .int .i64 10), (3, .int .i64 10)] = some (ESd.cells kx2).toArray := by kernel_rfl
  exact BigFrame.wpList_want hw fun _ hK => wp_build 34 _ rfl (by rw [e, b]; rfl) (by rw [e, b]; exact hK _ _ h)
theorem wl_kx3 (hw : Region.wanted ⟨d, .build 34 #[(0, .const (.int .u32 3)), (1, .const (.int .i64 5)), (3, .const (.int .i64 5))], ty, ps, af, gd⟩ (yielded ops a.tmps) = true) (h : wpList Try.prog ops Q rest (a.put d (.agg (ESd.cells kx3).toArray)) w) :
    wpList Try.prog ops Q (⟨d, .build 34 #[(0, .const (.int .u32 3)), (1, .const (.int .i64 5)), (3, .const (.int .i64 5))], ty, ps, af, gd⟩ :: rest) a w := by
  have e : (#[(0, Operand.const (.int .u32 3)), (1, .const (.int .i64 5)), (3, .const (.int .i64 5))].map fun (i, x) => (i, a.eval x)).toList = [(0, Value.int .u32 3), (1, .int .i64 5), (3, .int .i64 5)] := by simp [Act.eval]
  have b : Program.built Try.prog 34 [(0, Value.int .u32 3), (1, .int .i64 5), (3, .int .i64 5)] = some (ESd.cells kx3).toArray := by kernel_rfl
  exact BigFrame.wpList_want hw fun _ hK => wp_build 34 _ rfl (by rw [e, b]; rfl) (by rw [e, b]; exact hK _ _ h)
theorem wl_kds (hw : Region.wanted ⟨d, .buildSlice 22 3 #[(0, x), (1, y), (2, z)], ty, ps, af, gd⟩ (yielded ops a.tmps) = true) (hx : a.eval x = .agg (ED.cells kd1).toArray) (hy : a.eval y = .agg (ED.cells kd2).toArray) (hz : a.eval z = .agg (ED.cells kd3).toArray)
    (h : wpList Try.prog ops Q rest (a.put d (.slice (some ⟨w.heap.size, 0, none⟩) 3 3)) (w.alloc (.cells (ED.flat [kd1, kd2, kd3]).toArray 30))) :
    wpList Try.prog ops Q (⟨d, .buildSlice 22 3 #[(0, x), (1, y), (2, z)], ty, ps, af, gd⟩ :: rest) a w := by
  have hi : (Try.prog.info? 30).map (fun i => (i.zero, i.size, i.bytes)) = some (some (.agg (ED.cells zeroDu).toArray), 3, 24) := by kernel_rfl
  obtain ⟨ie, h1, h2, h3, _⟩ := info_parts hi
  refine BigFrame.wpList_want hw fun _ hK => wp_buildSlice 22 30 3 #[(0, x), (1, y), (2, z)] rfl (ED.flat [kd1, kd2, kd3]).toArray ie _ TDu.und h1 h2 (by rw [h3]; decide) (by rw [h3]; decide) ?_ (hK _ _ h)
  rw [h3, show ((#[(0, x), (1, y), (2, z)] : Array (Nat × Operand)).map fun (i, x) => (i, a.eval x)).toList = [(0, a.eval x), (1, a.eval y), (2, a.eval z)] from by simp, hx, hy, hz]
  kernel_rfl
theorem wl_kxs (hw : Region.wanted ⟨d, .buildSlice 24 3 #[(0, x), (1, y), (2, z)], ty, ps, af, gd⟩ (yielded ops a.tmps) = true) (hx : a.eval x = .agg (ESd.cells kx1).toArray) (hy : a.eval y = .agg (ESd.cells kx2).toArray) (hz : a.eval z = .agg (ESd.cells kx3).toArray)
    (h : wpList Try.prog ops Q rest (a.put d (.slice (some ⟨w.heap.size, 0, none⟩) 3 3)) (w.alloc (.cells (ESd.flat [kx1, kx2, kx3]).toArray 34))) :
    wpList Try.prog ops Q (⟨d, .buildSlice 24 3 #[(0, x), (1, y), (2, z)], ty, ps, af, gd⟩ :: rest) a w := by
  have hi : (Try.prog.info? 34).map (fun i => (i.zero, i.size, i.bytes)) = some (some (.agg (ESd.cells zeroSd).toArray), 4, 32) := by kernel_rfl
  obtain ⟨ie, h1, h2, h3, _⟩ := info_parts hi
  refine BigFrame.wpList_want hw fun _ hK => wp_buildSlice 24 34 3 #[(0, x), (1, y), (2, z)] rfl (ESd.flat [kx1, kx2, kx3]).toArray ie _ TSd.und h1 h2 (by rw [h3]; decide) (by rw [h3]; decide) ?_ (hK _ _ h)
  rw [h3, show ((#[(0, x), (1, y), (2, z)] : Array (Nat × Operand)).map fun (i, x) => (i, a.eval x)).toList = [(0, a.eval x), (1, a.eval y), (2, a.eval z)] from by simp, hx, hy, hz]
  kernel_rfl
end
theorem rd_new3 {α : Type} {E : Elt α} {te : TypeId} (w : World) (l : List α) : E.Rd (w.alloc (.cells (E.flat l).toArray te)) (some ⟨w.heap.size, 0, none⟩) l.length l :=
  ⟨rfl, (fun h => by cases h), fun _ a e => by
    cases e
    refine ⟨rfl, fun j u hj => ?_⟩
    rw [Nat.zero_add, cell_of_row _ _ _ _ _ _ (heap_alloc_new w _)]
    simpa using hj⟩
set_option maxRecDepth 100000 in
set_option maxHeartbeats 4000000 in
theorem known13 (K : SettleK) (w : World) : Calls Try.prog 7 #[] w fun e w' => e = .returned (.bool true) ∧ Below w.heap.size w w' := by
  obtain ⟨W1, hW1⟩ : ∃ W, w.alloc (.cells (ED.flat [kd1, kd2, kd3]).toArray 30) = W := ⟨_, rfl⟩
  have b1 : Below w.heap.size w W1 := by rw [← hW1]; exact below_new w _
  have r1 : ED.Rd W1 (some ⟨w.heap.size, 0, none⟩) 3 [kd1, kd2, kd3] := by rw [← hW1]; exact rd_new3 w _
  have S := K.settle 5 (some ⟨w.heap.size, 0, none⟩) 3 3 [kd1, kd2, kd3] W1 (by unfold I64; omega) r1 kd_ok (by decide)
  unfold ToldS at S
  rw [known_e, known_f, known_o] at S
  simp only [if_true, List.length_cons, List.length_nil, Nat.zero_add, Nat.reduceAdd] at S
  have S := Lib.hid S
  have B1 := Lib.hid b1
  have HW1 := Lib.hid hW1
  clear r1 b1 hW1 K
  go_enter Try.func7, Try.ntmps7
  go_wp2_with (first
    | ((with_reducible refine wl_kd1 ?_ ?_); rfl)
    | ((with_reducible refine wl_kd2 ?_ ?_); rfl)
    | ((with_reducible refine wl_kd3 ?_ ?_); rfl)
    | ((with_reducible refine wl_kds ?_ ?_ ?_ ?_ ?_); rfl; rfl; rfl; rfl; rw [HW1.out]))
  refine S.out.mono ?_; rintro e w2 ⟨A, c, rfl, r2, q2⟩
  have Q2 := Lib.hid (B1.out.trans (q2.mono B1.out.size))
  obtain ⟨W3, hW3⟩ : ∃ W, w2.alloc (.cells (ESd.flat [kx1, kx2, kx3]).toArray 34) = W := ⟨_, rfl⟩
  have b3 : Below w2.heap.size w2 W3 := by rw [← hW3]; exact below_new w2 _
  have r3 : ESd.Rd W3 (some ⟨w2.heap.size, 0, none⟩) 3 [kx1, kx2, kx3] := by rw [← hW3]; exact rd_new3 w2 _
  have Q3 := Lib.hid (Q2.out.trans (b3.mono Q2.out.size))
  have SM := Lib.hid (rsame13 A (some ⟨w2.heap.size, 0, none⟩) 3 c 3 [kx1, kx2, kx3] W3 (grd_below r2 b3 (Nat.le_refl _)) r3 kx_ok (by decide))
  have HW3 := Lib.hid hW3
  clear r2 r3 b3 hW3 q2 S
  go_wp2_with (first
    | ((with_reducible refine wl_kx1 ?_ ?_); rfl)
    | ((with_reducible refine wl_kx2 ?_ ?_); rfl)
    | ((with_reducible refine wl_kx3 ?_ ?_); rfl)
    | ((with_reducible refine wl_kxs ?_ ?_ ?_ ?_ ?_); rfl; rfl; rfl; rfl; rw [HW3.out]))
  refine SM.out.mono ?_; rintro e w4 ⟨rfl, q4⟩
  have Q4 := Lib.hid (Q3.out.trans (q4.out.mono Q3.out.size))
  clear q4
  go_wp2_with fail
  go_ret
  exact ⟨rfl, Q4.out⟩
end Go.Proofs.Ytlbekdpmfjhjhaa
