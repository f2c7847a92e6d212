/- The statements' own check (stage 14). -/
import Derived.Great.BuildSlice
import Derived.Laws.Tables
import Derived.Test.YtpfhkmppbochnaaHTpg
namespace Go.Proofs.Ytpfhkmppbochnaa
open Go.RowKit
set_option linter.unusedVariables false
set_option linter.unusedSimpArgs false

def kh1 : Ho := ⟨1, -10⟩
def kh2 : Ho := ⟨2, -20⟩
def kh3 : Ho := ⟨3, 5⟩
def ky1 : Ho := ⟨1, 3⟩
def ky2 : Ho := ⟨2, 7⟩
theorem known_e14 : errP 10 [kh1, kh2, kh3] = 0 := by decide +kernel
theorem known_o14 : outP 10 [kh1, kh2, kh3] = [ky1, ky2] := by kernel_rfl
theorem kh_ok : ∀ d, d ∈ [kh1, kh2, kh3] → d.ok := by
  intro d hd
  simp only [List.mem_cons, List.not_mem_nil, or_false] at hd
  rcases hd with rfl | rfl | rfl <;> refine ⟨by decide, ?_⟩ <;> simp [I64, kh1, kh2, kh3]
theorem ky_ok : ∀ d, d ∈ [ky1, ky2] → d.ok := by
  intro d hd
  simp only [List.mem_cons, List.not_mem_nil, or_false] at hd
  rcases hd with rfl | rfl <;> refine ⟨by decide, ?_⟩ <;> simp [I64, ky1, ky2]
section
variable {ops : Array Oper} {rest : List Oper} {a : Act} {w : World} {Q : Exit → Act → World → Prop} {d : Option Nat} {x y z : Operand} {ty : TypeId} {ps : String} {af : Array Edge} {gd : Option (Nat × Bool)}
theorem wl_kh1 (hw : Region.wanted ⟨d, .build 32 #[(0, .const (.int .u32 1)), (1, .const (.int .i64 (-10)))], ty, ps, af, gd⟩ (yielded ops a.tmps) = true) (h : wpList Try.prog ops Q rest (a.put d (.agg (EH.cells kh1).toArray)) w) :
    wpList Try.prog ops Q (⟨d, .build 32 #[(0, .const (.int .u32 1)), (1, .const (.int .i64 (-10)))], ty, ps, af, gd⟩ :: rest) a w := by
  have e : (#[(0, Operand.const (.int .u32 1)), (1, .const (.int .i64 (-10)))].map fun (i, x) => (i, a.eval x)).toList = [(0, Value.int .u32 1), (1, .int .i64 (-10))] := by simp [Act.eval]
  have b : Program.built Try.prog 32 [(0, Value.int .u32 1), (1, .int .i64 (-10))] = some (EH.cells kh1).toArray := by kernel_rfl
  exact BigFrame.wpList_want hw fun _ hK => wp_build 32 _ rfl (by rw [e, b]; rfl) (by rw [e, b]; exact hK _ _ h)
theorem wl_kh2 (hw : Region.wanted ⟨d, .build 32 #[(0, .const (.int .u32 2)), (1, .const (.int .i64 (-20)))], ty, ps, af, gd⟩ (yielded ops a.tmps) = true) (h : wpList Try.prog ops Q rest (a.put d (.agg (EH.cells kh2).toArray)) w) :
    wpList Try.prog ops Q (⟨d, .build 32 #[(0, .const (.int .u32 2)), (1, .const (.int .i64 (-20)))], ty, ps, af, gd⟩ :: rest) a w := by
  have e : (#[(0, Operand.const (.int .u32 2)), (1, .const (.int .i64 (-20)))].map fun (i, x) => (i, a.eval x)).toList = [(0, Value.int .u32 2), (1, .int .i64 (-20))] := by simp [Act.eval]
  have b : Program.built Try.prog 32 [(0, Value.int .u32 2), (1, .int .i64 (-20))] = some (EH.cells kh2).toArray := by kernel_rfl
  exact BigFrame.wpList_want hw fun _ hK => wp_build 32 _ rfl (by rw [e, b]; rfl) (by rw [e, b]; exact hK _ _ h)
theorem wl_kh3 (hw : Region.wanted ⟨d, .build 32 #[(0, .const (.int .u32 3)), (1, .const (.int .i64 5))], ty, ps, af, gd⟩ (yielded ops a.tmps) = true) (h : wpList Try.prog ops Q rest (a.put d (.agg (EH.cells kh3).toArray)) w) :
    wpList Try.prog ops Q (⟨d, .build 32 #[(0, .const (.int .u32 3)), (1, .const (.int .i64 5))], ty, ps, af, gd⟩ :: rest) a w := by
  have e : (#[(0, Operand.const (.int .u32 3)), (1, .const (.int .i64 5))].map fun (i, x) => (i, a.eval x)).toList = [(0, Value.int .u32 3), (1, .int .i64 5)] := by simp [Act.eval]
  have b : Program.built Try.prog 32 [(0, Value.int .u32 3), (1, .int .i64 5)] = some (EH.cells kh3).toArray := by kernel_rfl
  exact BigFrame.wpList_want hw fun _ hK => wp_build 32 _ rfl (by rw [e, b]; rfl) (by rw [e, b]; exact hK _ _ h)
theorem wl_ky1 (hw : Region.wanted ⟨d, .build 32 #[(0, .const (.int .u32 1)), (1, .const (.int .i64 3))], ty, ps, af, gd⟩ (yielded ops a.tmps) = true) (h : wpList Try.prog ops Q rest (a.put d (.agg (EH.cells ky1).toArray)) w) :
    wpList Try.prog ops Q (⟨d, .build 32 #[(0, .const (.int .u32 1)), (1, .const (.int .i64 3))], ty, ps, af, gd⟩ :: rest) a w := by
  have e : (#[(0, Operand.const (.int .u32 1)), (1, .const (.int .i64 3))].map fun (i, x) => (i, a.eval x)).toList = [(0, Value.int .u32 1), (1, .int .i64 3)] := by simp [Act.eval]
  have b : Program.built Try.prog 32 [(0, Value.int .u32 1), (1, .int .i64 3)] = some (EH.cells ky1).toArray := by kernel_rfl
  exact BigFrame.wpList_want hw fun _ hK => wp_build 32 _ rfl (by rw [e, b]; rfl) (by rw [e, b]; exact hK _ _ h)
theorem wl_ky2 (hw : Region.wanted ⟨d, .build 32 #[(0, .const (.int .u32 2)), (1, .const (.int .i64 7))], ty, ps, af, gd⟩ (yielded ops a.tmps) = true) (h : wpList Try.prog ops Q rest (a.put d (.agg (EH.cells ky2).toArray)) w) :
    wpList Try.prog ops Q (⟨d, .build 32 #[(0, .const (.int .u32 2)), (1, .const (.int .i64 7))], ty, ps, af, gd⟩ :: rest) a w := by
  have e : (#[(0, Operand.const (.int .u32 2)), (1, .const (.int .i64 7))].map fun (i, x) => (i, a.eval x)).toList = [(0, Value.int .u32 2), (1, .int .i64 7)] := by simp [Act.eval]
  have b : Program.built Try.prog 32 [(0, Value.int .u32 2), (1, .int .i64 7)] = some (EH.cells ky2).toArray := by kernel_rfl
  exact BigFrame.wpList_want hw fun _ hK => wp_build 32 _ rfl (by rw [e, b]; rfl) (by rw [e, b]; exact hK _ _ h)
theorem wl_khs (hw : Region.wanted ⟨d, .buildSlice 22 3 #[(0, x), (1, y), (2, z)], ty, ps, af, gd⟩ (yielded ops a.tmps) = true) (hx : a.eval x = .agg (EH.cells kh1).toArray) (hy : a.eval y = .agg (EH.cells kh2).toArray) (hz : a.eval z = .agg (EH.cells kh3).toArray)
    (h : wpList Try.prog ops Q rest (a.put d (.slice (some ⟨w.heap.size, 0, none⟩) 3 3)) (w.alloc (.cells (EH.flat [kh1, kh2, kh3]).toArray 32))) :
    wpList Try.prog ops Q (⟨d, .buildSlice 22 3 #[(0, x), (1, y), (2, z)], ty, ps, af, gd⟩ :: rest) a w := by
  have hi : (Try.prog.info? 32).map (fun i => (i.zero, i.size, i.bytes)) = some (some (.agg (EH.cells zeroHo).toArray), 2, 16) := by kernel_rfl
  obtain ⟨ie, h1, h2, h3, _⟩ := info_parts hi
  refine BigFrame.wpList_want hw fun _ hK => wp_buildSlice 22 32 3 #[(0, x), (1, y), (2, z)] rfl (EH.flat [kh1, kh2, kh3]).toArray ie _ TH.und h1 h2 (by rw [h3]; decide) (by rw [h3]; decide) ?_ (hK _ _ h)
  rw [h3, show ((#[(0, x), (1, y), (2, z)] : Array (Nat × Operand)).map fun (i, x) => (i, a.eval x)).toList = [(0, a.eval x), (1, a.eval y), (2, a.eval z)] from by simp, hx, hy, hz]
  kernel_rfl
theorem wl_kys (hw : Region.wanted ⟨d, .buildSlice 22 2 #[(0, x), (1, y)], ty, ps, af, gd⟩ (yielded ops a.tmps) = true) (hx : a.eval x = .agg (EH.cells ky1).toArray) (hy : a.eval y = .agg (EH.cells ky2).toArray)
    (h : wpList Try.prog ops Q rest (a.put d (.slice (some ⟨w.heap.size, 0, none⟩) 2 2)) (w.alloc (.cells (EH.flat [ky1, ky2]).toArray 32))) :
    wpList Try.prog ops Q (⟨d, .buildSlice 22 2 #[(0, x), (1, y)], ty, ps, af, gd⟩ :: rest) a w := by
  have hi : (Try.prog.info? 32).map (fun i => (i.zero, i.size, i.bytes)) = some (some (.agg (EH.cells zeroHo).toArray), 2, 16) := by kernel_rfl
  obtain ⟨ie, h1, h2, h3, _⟩ := info_parts hi
  refine BigFrame.wpList_want hw fun _ hK => wp_buildSlice 22 32 2 #[(0, x), (1, y)] rfl (EH.flat [ky1, ky2]).toArray ie _ TH.und h1 h2 (by rw [h3]; decide) (by rw [h3]; decide) ?_ (hK _ _ h)
  rw [h3, show ((#[(0, x), (1, y)] : Array (Nat × Operand)).map fun (i, x) => (i, a.eval x)).toList = [(0, a.eval x), (1, a.eval y)] from by simp, hx, hy]
  kernel_rfl
end
theorem rd_new14 {α : Type} {E : Elt α} {te : TypeId} (w : World) (l : List α) : E.Rd (w.alloc (.cells (E.flat l).toArray te)) (some ⟨w.heap.size, 0, none⟩) l.length l :=
  ⟨rfl, (fun h => by cases h), fun _ a e => by
    cases e
    refine ⟨rfl, fun j u hj => ?_⟩
    rw [Nat.zero_add, cell_of_row _ _ _ _ _ _ (heap_alloc_new w _)]
    simpa using hj⟩
set_option maxRecDepth 100000 in
set_option maxHeartbeats 4000000 in
theorem known14 (K : TearK) (w : World) : Calls Try.prog 7 #[] w fun e w' => e = .returned (.bool true) ∧ Below w.heap.size w w' := by
  obtain ⟨W1, hW1⟩ : ∃ W, w.alloc (.cells (EH.flat [kh1, kh2, kh3]).toArray 32) = W := ⟨_, rfl⟩
  have b1 : Below w.heap.size w W1 := by rw [← hW1]; exact below_new w _
  have r1 : EH.Rd W1 (some ⟨w.heap.size, 0, none⟩) 3 [kh1, kh2, kh3] := by rw [← hW1]; exact rd_new14 w _
  have S := K.parts 10 (some ⟨w.heap.size, 0, none⟩) 3 3 [kh1, kh2, kh3] W1 (by unfold I64; omega) r1 kh_ok (by decide)
  unfold ToldP at S
  rw [known_e14, known_o14] at S
  simp only [if_true, List.length_cons, List.length_nil, Nat.zero_add, Nat.reduceAdd] at S
  have S := Lib.hid S
  have B1 := Lib.hid b1
  have HW1 := Lib.hid hW1
  clear r1 b1 hW1 K
  go_enter Try.func7, Try.ntmps7
  go_wp2_with (first
    | ((with_reducible refine wl_kh1 ?_ ?_); rfl)
    | ((with_reducible refine wl_kh2 ?_ ?_); rfl)
    | ((with_reducible refine wl_kh3 ?_ ?_); rfl)
    | ((with_reducible refine wl_khs ?_ ?_ ?_ ?_ ?_); rfl; rfl; rfl; rfl; rw [HW1.out]))
  refine S.out.mono ?_; rintro e w2 ⟨A, c, rfl, r2, q2⟩
  have Q2 := Lib.hid (B1.out.trans (q2.mono B1.out.size))
  obtain ⟨W3, hW3⟩ : ∃ W, w2.alloc (.cells (EH.flat [ky1, ky2]).toArray 32) = W := ⟨_, rfl⟩
  have b3 : Below w2.heap.size w2 W3 := by rw [← hW3]; exact below_new w2 _
  have r3 : EH.Rd W3 (some ⟨w2.heap.size, 0, none⟩) 2 [ky1, ky2] := by rw [← hW3]; exact rd_new14 w2 _
  have Q3 := Lib.hid (Q2.out.trans (b3.mono Q2.out.size))
  have SM := Lib.hid (rsame14 A (some ⟨w2.heap.size, 0, none⟩) 2 c 2 [ky1, ky2] W3 (grd_below r2 b3 (Nat.le_refl _)) r3 ky_ok (by decide))
  have HW3 := Lib.hid hW3
  clear r2 r3 b3 hW3 q2 S
  go_wp2_with (first
    | ((with_reducible refine wl_ky1 ?_ ?_); rfl)
    | ((with_reducible refine wl_ky2 ?_ ?_); rfl)
    | ((with_reducible refine wl_kys ?_ ?_ ?_ ?_); rfl; rfl; rfl; rw [HW3.out]))
  refine SM.out.mono ?_; rintro e w4 ⟨rfl, q4⟩
  have Q4 := Lib.hid (Q3.out.trans (q4.out.mono Q3.out.size))
  clear q4
  go_wp2_with fail
  go_ret
  exact ⟨rfl, Q4.out⟩
end Go.Proofs.Ytpfhkmppbochnaa
