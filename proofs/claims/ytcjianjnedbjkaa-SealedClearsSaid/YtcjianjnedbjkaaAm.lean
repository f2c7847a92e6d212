/- The statements' own check: seven to bids of five. -/
import Derived.Test.YtcjianjnedbjkaaAl
import Derived.Test.YtcjianjnedbjkaaAq
namespace Go.Proofs.Ytcjianjnedbjkaa
open Go.RowKit Go.Shelf
set_option linter.unusedVariables false
set_option linter.unusedSimpArgs false

def kl8 : List Or := [⟨1, 1, true, 10, 5⟩, ⟨2, 2, true, 12, 5⟩, ⟨3, 3, true, 10, 5⟩]
theorem kl_ok8 : OkC true 7 kl8 := ⟨by decide, by decide, by decide, fun x hx => by
  simp only [kl8, List.mem_cons, List.not_mem_nil, or_false] at hx
  rcases hx with rfl | rfl | rfl <;> exact ⟨by decide, rfl⟩, by
  unfold Dis kl8
  simp⟩
theorem kl_clr8 : clrA true 7 kl8 = 0 ∧ clrP true 7 kl8 = 10 ∧ clrF true 7 kl8 = [⟨2, 2, 5⟩, ⟨1, 1, 2⟩] := by
  obtain ⟨e1, e2⟩ := fill_clr kl_ok8
  refine ⟨(clr_ok kl_ok8).1, ?_, ?_⟩
  · rw [← e2]; decide
  · rw [← e1]
    show fillC [⟨2, 2, true, 12, 5⟩, ⟨1, 1, true, 10, 5⟩, ⟨3, 3, true, 10, 5⟩] 7 = _
    simp [fillC, minC]
theorem five8 {α : Type} {l : Array α} (h : l.size = 5) : ∃ a b c d e, l = #[a, b, c, d, e] := by
  obtain ⟨l⟩ := l
  match l, h with
  | [a, b, c, d, e], _ => exact ⟨a, b, c, d, e, rfl⟩
theorem fill_kl8 (z : Value) (h : z.cells.size = 5) : Instr.fill (fun i => some (i * 5, 5)) ((Array.range (3 * 5)).map (z.cells[· % z.cells.size]!)) [(0, .agg #[.int .u64 1, .int .u32 1, .bool true, .int .i64 10, .int .i64 5]), (1, .agg #[.int .u64 2, .int .u32 2, .bool true, .int .i64 12, .int .i64 5]), (2, .agg #[.int .u64 3, .int .u32 3, .bool true, .int .i64 10, .int .i64 5])] = some (EO.flat kl8).toArray := by
  obtain ⟨a, b, c, d, e, hz⟩ := five8 h
  rw [hz]
  kernel_rfl
theorem wl_kl8 {ops : Array Oper} {rest : List Oper} {a : Act} {w : World} {Q : Exit → Act → World → Prop} {d : Option Nat} {x y z : Operand} {ty : TypeId} {ps : String} {af : Array Edge}
    (hx : a.eval x = .agg #[.int .u64 1, .int .u32 1, .bool true, .int .i64 10, .int .i64 5]) (hy : a.eval y = .agg #[.int .u64 2, .int .u32 2, .bool true, .int .i64 12, .int .i64 5]) (hz : a.eval z = .agg #[.int .u64 3, .int .u32 3, .bool true, .int .i64 10, .int .i64 5])
    (h : wpList Try.prog ops Q rest (a.put d (.slice (some ⟨w.heap.size, 0, none⟩) 3 3)) (w.alloc (.cells (EO.flat kl8).toArray 31))) :
    wpList Try.prog ops Q ({ dst := d, op := .buildSlice 22 3 #[(0, x), (1, y), (2, z)], type := ty, pos := ps, after := af, guard := none } :: rest) a w := by
  obtain ⟨z0, by', hi, hzs, _⟩ := TO.info
  obtain ⟨ie, h1, h2, h3, _⟩ := info_parts hi
  refine wpList_buildSlice rfl 22 31 3 #[(0, x), (1, y), (2, z)] rfl (EO.flat kl8).toArray ie z0 TO.und h1 h2 (by rw [h3]; decide) (by rw [h3]; decide) ?_ h
  rw [h3, show ((#[(0, x), (1, y), (2, z)] : Array (Nat × Operand)).map fun (i, x) => (i, a.eval x)).toList = [(0, a.eval x), (1, a.eval y), (2, a.eval z)] from by simp, hx, hy, hz]
  exact fill_kl8 z0 hzs
set_option maxRecDepth 100000 in
set_option maxHeartbeats 8000000 in
theorem known8 (K : ClearK) (w : World) : Calls Try.prog 7 #[] w fun e w' => e = .returned (.bool true) ∧ Below w.heap.size w w' := by
  obtain ⟨w1, hw1⟩ : ∃ w1, w.alloc (.cells (EO.flat kl8).toArray 31) = w1 := ⟨_, rfl⟩
  have b1 : Below w.heap.size w w1 := by rw [← hw1]; exact below_new w _
  have r1 : EO.Rd w1 (some ⟨w.heap.size, 0, none⟩) 3 kl8 := ⟨rfl, (fun h => by cases h), fun _ a e => by
    cases e
    refine ⟨rfl, fun j u hj => ?_⟩
    rw [Nat.zero_add, ← hw1, cell_of_row _ _ _ _ _ _ (heap_alloc_new w _)]
    simpa using hj⟩
  have C := Lib.hid (K true 7 (some ⟨w.heap.size, 0, none⟩) 3 3 kl8 w1 r1 (fun x hx => by
    simp only [kl8, List.mem_cons, List.not_mem_nil, or_false] at hx
    rcases hx with rfl | rfl | rfl <;> constructor <;> simp [I64']) (fun e => by cases e) (by unfold maxLen; omega) (by unfold I64'; omega))
  obtain ⟨e1, e2, e3⟩ := kl_clr8
  rw [e1, e2, e3] at C
  have B1 := Lib.hid b1
  have HW := Lib.hid hw1
  have ok1 : (Fl.mk 2 2 5).ok := by constructor <;> simp [I64']
  have ok2 : (Fl.mk 1 1 2).ok := by constructor <;> simp [I64']
  have OK1 := Lib.hid ok1
  have OK2 := Lib.hid ok2
  clear b1 r1 hw1 e1 e2 e3 K ok1 ok2
  go_enter Try.func7, Try.ntmps7
  go_wp2_with (refine wl_kl8 rfl rfl rfl ?_; rw [HW.out])
  refine C.out.mono ?_; rintro e w2 ⟨v, rfl, o2, q2⟩
  obtain ⟨blk, c2, rfl⟩ := gown_slot o2 (by simp)
  have R1 : Hid (w2.rangeAt blk 0 (EF.cells ⟨2, 2, 5⟩)) := Lib.hid (by have := gown_rng o2 (k := 0) rfl; rwa [Nat.zero_mul] at this)
  have R2 : Hid (w2.rangeAt blk 3 (EF.cells ⟨1, 1, 2⟩)) := Lib.hid (by have := gown_rng o2 (k := 1) rfl; rwa [Nat.one_mul] at this)
  have Q2 := Lib.hid q2
  clear o2 q2
  go_wp2_with (first | ((with_reducible refine gwl_load TF blk 0 R1.out ?_ ?_ ?_); rfl; rfl) | ((with_reducible refine gwl_load TF blk 3 R2.out ?_ ?_ ?_); rfl; rfl) | ((with_reducible refine wl_eql_fl0 OK1.out ?_ ?_ ?_ ?_); rfl; rfl; rfl) | ((with_reducible refine wl_eql_fl0 OK2.out ?_ ?_ ?_ ?_); rfl; rfl; rfl))
  go_ret
  exact ⟨rfl, B1.out.trans (Q2.out.mono B1.out.size)⟩
end Go.Proofs.Ytcjianjnedbjkaa
