/- The shifts of a contract's data as an array: read out of the data, and gone over; fields written one by one; no program's function. -/
import Derived.Test.YtmelpikncdnloaaQp
import Derived.Deep.MidRow
namespace Go.Proofs.Ytmelpikncdnloaa
open Go.RowKit

/-- The shifts as a value. -/
def Sp.arr (s : Sp) : Array Value := (s.sh.map (Value.int .i64)).toArray
theorem info_arr : (Try.prog.info? 23).map (fun i => i.size) = some 16 := by kernel_rfl
theorem info_int : (Try.prog.info? 2).map (fun i => i.size) = some 1 := by kernel_rfl
theorem Box.range {w : World} {g : Nat} {s : Sp} (h : Box w g s) : w.rangeAt g 6 (s.sh.map (Value.int .i64)) := fun j v hj => by
  have hjl : j < s.sh.length := by have := (List.getElem?_eq_some_iff.1 hj).1; simpa using this
  rw [h.cell (6 + j), Sp.c6 h.2 j (by rw [← h.2]; exact hjl), ← hj]
  simp [List.getD, hjl]
theorem wl_load_arr {ops : Array Oper} {rest : List Oper} {a : Act} {w : World} {Q : Exit → Act → World → Prop} {d : Option Nat} {x : Operand} {ty : TypeId} {ps : String} {af : Array Edge} {s : Sp} (g : Nat) (hb : Box w g s)
    (hx : a.eval x = .pointer (some ⟨g, 6, none⟩)) (h : wpList Try.prog ops Q rest (a.put d (.agg s.arr)) w) : wpList Try.prog ops Q (⟨d, .load 23 x, ty, ps, af, none⟩ :: rest) a w :=
  wpList_load_mid rfl 23 x rfl g 6 hx (s.sh.map (Value.int .i64)) _ hb.range Try.underlying23 rfl (by rw [info_arr, List.length_map, hb.2]) h
theorem exec_index {o : Oper} {a : Act} {x i : Operand} (ho : o.op = .index 23 x i) {s : Sp} (hl : s.sh.length = 16) {k : Nat} (hk : k < 16) (hx : a.eval x = .agg s.arr) (hi : a.eval i = .int .i64 (k : Int)) (w : World) :
    (execOp a.eval o).run Try.prog w = .ok (.value (.int .i64 (s.sh.getD k 0))) w := by
  have hkl : k < s.sh.length := by omega
  obtain ⟨i0, h0, h1⟩ : ∃ i0, Try.prog.info? 2 = some i0 ∧ i0.size = 1 := by
    have := info_int
    cases h : Try.prog.info? 2 with
    | none => rw [h] at this; cases this
    | some i0 => rw [h] at this; exact ⟨i0, rfl, by simpa using this⟩
  have hc : s.arr[k]? = some (.int .i64 (s.sh.getD k 0)) := by simp [Sp.arr, List.getD, hkl]
  unfold execOp
  simp [ho, hx, hi, Instr.index, asIntOf, run_underlying Try.underlying23, sizeOf, typeInfo, h0, h1, part, isAgg, run_underlying Try.underlying2, hc, Result.andThen, hk]
theorem wl_index_arr {ops : Array Oper} {rest : List Oper} {a : Act} {w : World} {Q : Exit → Act → World → Prop} {d : Option Nat} {x i : Operand} {ty : TypeId} {ps : String} {af : Array Edge} {s : Sp} {k : Nat} (hl : s.sh.length = 16) (hk : k < 16)
    (hx : a.eval x = .agg s.arr) (hi : a.eval i = .int .i64 (k : Int)) (h : wpList Try.prog ops Q rest (a.put d (.int .i64 (s.sh.getD k 0))) w) : wpList Try.prog ops Q (⟨d, .index 23 x i, ty, ps, af, none⟩ :: rest) a w :=
  wpList_plain rfl fun K hK => by
    unfold Oper.wp
    rw [exec_index rfl hl hk hx hi w]
    exact hK _ _ h
end Go.Proofs.Ytmelpikncdnloaa
