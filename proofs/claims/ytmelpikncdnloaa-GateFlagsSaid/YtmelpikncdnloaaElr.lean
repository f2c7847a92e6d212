/- GENERIC: structs that no slice type holds: loaded, stored, told. -/
import Derived.Test.YtmelpikncdnloaaSa
namespace Go.Proofs.Ytmelpikncdnloaa
open Go.RowKit
set_option linter.unusedVariables false
set_option linter.unusedSimpArgs false

/-- What a program says of its struct type te. -/
structure EltR {α : Type} (P : Program) (E : Elt α) (te : TypeId) : Prop where
  row : ∃ fs, P.underlying te = some (.struct fs)
  size : (P.info? te).map (fun i => i.size) = some E.N
section
variable {α : Type} {E : Elt α} {te : TypeId} {P : Program} {w : World} {ops : Array Oper} {rest : List Oper} {a : Act} {Q : Exit → Act → World → Prop} {d : Option Nat} {x y : Operand} {ty : TypeId} {ps : String} {af : Array Edge} {gd : Option (Nat × Bool)}
theorem rwl_load (T : EltR P E te) {s : α} (b o : Nat) (hb : w.rangeAt b o (E.cells s))
    (hw : Region.wanted ⟨d, .load te x, ty, ps, af, gd⟩ (yielded ops a.tmps) = true) (hx : a.eval x = .pointer (some ⟨b, o, none⟩)) (h : wpList P ops Q rest (a.put d (.agg (E.cells s).toArray)) w) : wpList P ops Q (⟨d, .load te x, ty, ps, af, gd⟩ :: rest) a w := by
  obtain ⟨fs, hu⟩ := T.row
  exact BigFrame.wpList_want hw fun _ hK => wp_load_mid te x rfl b o hx (E.cells s) _ hb hu rfl (by rw [T.size, E.len]) (hK _ _ h)
theorem ryields_load (T : EltR P E te) {S : World → Prop} {o : Oper} {a : Act} (hw : Region.wanted o (yielded ops a.tmps) = true) (x : Operand) (ho : o.op = .load te x) (b k : Nat) (hx : a.eval x = .pointer (some ⟨b, k, none⟩)) {s : α} (hS : ∀ w, S w → w.rangeAt b k (E.cells s)) :
    YieldsIf P ops S o (.agg (E.cells s).toArray) a := by
  obtain ⟨fs, hu⟩ := T.row
  exact yieldsIf_load_mid hw te x ho b k hx (E.cells s) _ hS hu rfl (by rw [T.size, E.len])
theorem rwl_store (T : EltR P E te) (s : α) {t : α} (g : Nat) (hb : E.Bx te w g t) (hx : a.eval x = .pointer (some ⟨g, 0, none⟩)) (hy : a.eval y = .agg (E.cells s).toArray)
    (h : wpList P ops Q rest (a.put d undef) (w.setRow g (E.cells s).toArray)) : wpList P ops Q (⟨d, .store te x y, ty, ps, af, none⟩ :: rest) a w :=
  wpList_store_row rfl te x y rfl g (E.cells s).toArray hx hy te (E.cells t).toArray hb (by rw [T.size, List.size_toArray, E.len]) (by rw [List.size_toArray, List.size_toArray, E.len, E.len]) (gall_one s) h
theorem rret (T : EltR P E te) {fn : Func} {p u : Tmp} (h : fn.results = #[.cell p te, .tmp u]) (tmps : Array Value) (w : World) (g : Nat) {s : α} {v : Value} (hp : tmps.getD p undef = .pointer (some ⟨g, 0, none⟩)) (hv : tmps.getD u undef = v) (hb : E.Bx te w g s) :
    (results fn tmps).run P w = .ok (.tuple #[.agg (E.cells s).toArray, v]) w := by
  obtain ⟨fs, hu⟩ := T.row
  rw [results_cell_tmp h]
  simp [hp, hv, asAddr, run_loadVar_row w g te te (E.cells s).toArray (0, 0) _ hb hu rfl (by rw [T.size, List.size_toArray, E.len])]
theorem rwl_build0 {z : α} (hz : P.built te [] = some (E.cells z).toArray) (h : wpList P ops Q rest (a.put d (.agg (E.cells z).toArray)) w) :
    wpList P ops Q ({ dst := d, op := .build te #[], type := ty, pos := ps, after := af, guard := none } :: rest) a w := gwl_build0 hz h
end
theorem rret1 {α : Type} {E : Elt α} {te : TypeId} {P : Program} (T : EltR P E te) {fn : Func} {p : Tmp} (h : fn.results = #[.cell p te]) (tmps : Array Value) (w : World) (g : Nat) {s : α} (hp : tmps.getD p undef = .pointer (some ⟨g, 0, none⟩)) (hb : E.Bx te w g s) :
    (results fn tmps).run P w = .ok (.agg (E.cells s).toArray) w := by
  obtain ⟨fs, hu⟩ := T.row
  exact results_cell_row h tmps w g te (E.cells s).toArray (0, 0) _ hp hb hu rfl (by rw [T.size, List.size_toArray, E.len])
end Go.Proofs.Ytmelpikncdnloaa
