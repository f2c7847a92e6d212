/- Structs without slices of them: loaded, stored, told; what Need keeps in memory; no walk of a program's function. -/
import Derived.Test.YtcpcnjiphiokjaaExb
namespace Go.Proofs.Ytcpcnjiphiokjaa
open Go.RowKit Go.Shelf
set_option linter.unusedVariables false
set_option linter.unusedSimpArgs false

/-- What a program says of its struct type te. -/
structure EltR {α : Type} (P : Program) (E : Elt α) (te : TypeId) : Prop where
  row : ∃ fs, P.underlying te = some (.struct fs)
  size : (P.info? te).map (fun i => i.size) = some E.N
section
variable {α : Type} {E : Elt α} {te : TypeId} {P : Program} {w : World} {ops : Array Oper} {rest : List Oper} {a : Act} {Q : Exit → Act → World → Prop} {d : Option Nat} {x y : Operand} {ty : TypeId} {ps : String} {af : Array Edge} {gd : Option (Nat × Bool)}
theorem rwl_load (T : EltR P E te) {s : α} (b o : Nat) (hb : w.rangeAt b o (E.cells s))
    (hw : Region.wanted ⟨d, .load te x, ty, ps, af, gd⟩ (yielded ops a.tmps) = true) (hx : a.eval x = .pointer (some ⟨b, o, none⟩)) (h : wpList P ops Q rest (a.put d (.agg (E.cells s).toArray)) w) : wpList P ops Q (⟨d, .load te x, ty, ps, af, gd⟩ :: rest) a w := by
  obtain ⟨fs, hu⟩ := T.row
  exact BigFrame.wpList_want hw fun _ hK => wp_load_mid te x rfl b o hx (E.cells s) _ hb hu rfl (by rw [T.size, E.len]) (hK _ _ h)
theorem ryields_load (T : EltR P E te) {S : World → Prop} {o : Oper} {a : Act} (hw : Region.wanted o (yielded ops a.tmps) = true) (x : Operand) (ho : o.op = .load te x) (b k : Nat) (hx : a.eval x = .pointer (some ⟨b, k, none⟩)) {s : α} (hS : ∀ w, S w → w.rangeAt b k (E.cells s)) :
    YieldsIf P ops S o (.agg (E.cells s).toArray) a := by
  obtain ⟨fs, hu⟩ := T.row
  exact yieldsIf_load_mid hw te x ho b k hx (E.cells s) _ hS hu rfl (by rw [T.size, E.len])
theorem rwl_store (T : EltR P E te) (s : α) {t : α} (g : Nat) (hb : E.Bx te w g t) (hx : a.eval x = .pointer (some ⟨g, 0, none⟩)) (hy : a.eval y = .agg (E.cells s).toArray)
    (h : wpList P ops Q rest (a.put d undef) (w.setRow g (E.cells s).toArray)) : wpList P ops Q (⟨d, .store te x y, ty, ps, af, none⟩ :: rest) a w :=
  wpList_store_row rfl te x y rfl g (E.cells s).toArray hx hy te (E.cells t).toArray hb (by rw [T.size, List.size_toArray, E.len]) (by rw [List.size_toArray, List.size_toArray, E.len, E.len]) (gall_one s) h
theorem rret (T : EltR P E te) {fn : Func} {p u : Tmp} (h : fn.results = #[.cell p te, .tmp u]) (tmps : Array Value) (w : World) (g : Nat) {s : α} {v : Value} (hp : tmps.getD p undef = .pointer (some ⟨g, 0, none⟩)) (hv : tmps.getD u undef = v) (hb : E.Bx te w g s) :
    (results fn tmps).run P w = .ok (.tuple #[.agg (E.cells s).toArray, v]) w := by
  obtain ⟨fs, hu⟩ := T.row
  rw [results_cell_tmp h]
  simp [hp, hv, asAddr, run_loadVar_row w g te te (E.cells s).toArray (0, 0) _ hb hu rfl (by rw [T.size, List.size_toArray, E.len])]
theorem rwl_build0 {z : α} (hz : P.built te [] = some (E.cells z).toArray) (h : wpList P ops Q rest (a.put d (.agg (E.cells z).toArray)) w) :
    wpList P ops Q ({ dst := d, op := .build te #[], type := ty, pos := ps, after := af, guard := none } :: rest) a w := gwl_build0 hz h
end
theorem TN : EltR Try.prog EN 35 := ⟨⟨_, Try.underlying35⟩, by kernel_rfl⟩
theorem zero_n11 (w : World) : (zeroValue 35).run Try.prog w = .ok (.agg (EN.cells zeroNd).toArray) w := by kernel_rfl
theorem zero_k11 (w : World) : (zeroValue 33).run Try.prog w = .ok (.agg (EK.cells zeroSk).toArray) w := by kernel_rfl
theorem built0_n11 : Program.built Try.prog 35 [] = some (EN.cells zeroNd).toArray := by kernel_rfl
theorem sixteen11 {α : Type} {l : List α} (h : l.length = 16) : ∃ a b c d e f g i j k m n o p q r, l = [a, b, c, d, e, f, g, i, j, k, m, n, o, p, q, r] := by
  match l, h with
  | [a, b, c, d, e, f, g, i, j, k, m, n, o, p, q, r], _ => exact ⟨a, b, c, d, e, f, g, i, j, k, m, n, o, p, q, r, rfl⟩
theorem fill_lq11 (x : Lq) : Instr.fill (fun i => some (i * 26, 26)) ((Array.range (1 * 26)).map ((Value.agg (EL.cells zeroLq).toArray).cells[· % (Value.agg (EL.cells zeroLq).toArray).cells.size]!)) [(0, .agg (EL.cells x).toArray)] = some (EL.cells x).toArray := by
  obtain ⟨⟨nu, ro, ti, lo, ba, li, sh, cr, la, fi⟩, q, h⟩ := x
  obtain ⟨a, b, c, d, e, f, g, i, j, k, m, n, o, p', q', r, rfl⟩ := sixteen11 h
  kernel_rfl
theorem wl_bs11 {ops : Array Oper} {rest : List Oper} {a : Act} {w : World} {Q : Exit → Act → World → Prop} {d : Option Nat} {y : Operand} {ty : TypeId} {ps : String} {af : Array Edge} {x : Lq} (hx : a.eval y = .agg (EL.cells x).toArray)
    (h : wpList Try.prog ops Q rest (a.put d (.slice (some ⟨w.heap.size, 0, none⟩) 1 1)) (w.alloc (.cells (EL.cells x).toArray 30))) :
    wpList Try.prog ops Q ({ dst := d, op := .buildSlice 52 1 #[(0, y)], type := ty, pos := ps, after := af, guard := none } :: rest) a w := by
  have hi : (Try.prog.info? 30).map (fun i => (i.zero, i.size, i.bytes)) = some (some (.agg (EL.cells zeroLq).toArray), 26, 200) := by kernel_rfl
  obtain ⟨ie, h1, h2, h3, _⟩ := info_parts hi
  refine wpList_buildSlice rfl 52 30 1 #[(0, y)] rfl (EL.cells x).toArray ie _ TL.und h1 h2 (by rw [h3]; decide) (by rw [h3]; decide) ?_ h
  rw [h3, show ((#[(0, y)] : Array (Nat × Operand)).map fun (i, x) => (i, a.eval x)).toList = [(0, a.eval y)] from by simp, hx]
  exact fill_lq11 x
theorem not_in_own {te : TypeId} {w : World} {B : Nat} {v : Value} {l : List Lq} (h : EL.Own te w B v l) : v.ownBlock ≠ some w.heap.size := fun e => by
  have := (gown_lt h e).2
  omega
/-- Need's memory: the legs' list, the need under way, the result. -/
structure Nl (w : World) (B g2 g6 : Nat) (L : Value) (l : List Lq) (a b : Int) (W : World) : Prop where
  own : EL.Own 30 W B L l
  n6 : EN.Bx 35 W g6 ⟨0, a, b⟩
  n2 : EN.Bx 35 W g2 zeroNd
  bel : Below w.heap.size w W
  sz : B ≤ W.heap.size
  l2 : w.heap.size ≤ g2
  l6 : g2 < g6
  lB : g6 < B
section
variable {w W W' : World} {B g2 g6 : Nat} {L : Value} {l : List Lq} {a b : Int}
theorem Nl.below (h : Nl w B g2 g6 L l a b W) (q : Below W.heap.size W W') : Nl w B g2 g6 L l a b W' :=
  ⟨gown_below h.own q, gbx_below h.n6 q, gbx_below h.n2 q, h.bel.trans (q.mono h.bel.size), Nat.le_trans h.sz q.size, h.l2, h.l6, h.lB⟩
theorem Nl.c0 (h : Nl w B g2 g6 L l a b W) : W.cell? ⟨g6, 0, none⟩ = some (.int .i64 0) := gbx_cell h.n6 0
theorem Nl.c1 (h : Nl w B g2 g6 L l a b W) : W.cell? ⟨g6, 1, none⟩ = some (.int .i64 a) := gbx_cell h.n6 1
theorem Nl.c2 (h : Nl w B g2 g6 L l a b W) : W.cell? ⟨g6, 2, none⟩ = some (.int .i64 b) := gbx_cell h.n6 2
theorem Nl.f (h : Nl w B g2 g6 L l a b W) (j : Nat) : W.frozen? ⟨g6, j, none⟩ = false := gbx_fz h.n6 j
theorem Nl.other (h : Nl w B g2 g6 L l a b W) (j : Nat) (u : Value) : EL.Own 30 (W.setCell ⟨g6, j, none⟩ u) B L l ∧ EN.Bx 35 (W.setCell ⟨g6, j, none⟩ u) g2 zeroNd ∧ Below w.heap.size w (W.setCell ⟨g6, j, none⟩ u) ∧ B ≤ (W.setCell ⟨g6, j, none⟩ u).heap.size := by
  have f : Fr (fun k => k = g6) W (W.setCell ⟨g6, j, none⟩ u) := Fr.set (S := fun k => k = g6) (p := ⟨g6, j, none⟩) rfl u
  have hl := h.lB
  have hz := h.sz
  refine ⟨gown_fr h.own f fun k hk e => ?_, (f.at' g2 (Array.getElem?_eq_some_iff.1 h.n2).1 (fun e => by have := h.l6; omega)).trans h.n2, h.bel.setCell (by have := h.l2; have := h.l6; show _ ≤ g6; omega) u, Nat.le_trans h.sz f.size⟩
  have := (gown_lt h.own hk).1
  omega
theorem Nl.put1 (h : Nl w B g2 g6 L l a b W) (a' : Int) : Nl w B g2 g6 L l a' b (W.setCell ⟨g6, 1, none⟩ (.int .i64 a')) :=
  ⟨(h.other 1 _).1, gbx_put h.n6 rfl, (h.other 1 _).2.1, (h.other 1 _).2.2.1, (h.other 1 _).2.2.2, h.l2, h.l6, h.lB⟩
theorem Nl.put2 (h : Nl w B g2 g6 L l a b W) (b' : Int) : Nl w B g2 g6 L l a b' (W.setCell ⟨g6, 2, none⟩ (.int .i64 b')) :=
  ⟨(h.other 2 _).1, gbx_put h.n6 rfl, (h.other 2 _).2.1, (h.other 2 _).2.2.1, (h.other 2 _).2.2.2, h.l2, h.l6, h.lB⟩
theorem Nl.put0 (h : Nl w B g2 g6 L l a b W) (m : Int) : EN.Bx 35 (W.setCell ⟨g6, 0, none⟩ (.int .i64 m)) g6 ⟨m, a, b⟩ ∧ EN.Bx 35 (W.setCell ⟨g6, 0, none⟩ (.int .i64 m)) g2 zeroNd ∧ Below w.heap.size w (W.setCell ⟨g6, 0, none⟩ (.int .i64 m)) :=
  ⟨gbx_put h.n6 rfl, (h.other 0 _).2.1, (h.other 0 _).2.2.1⟩
/-- The list has grown. -/
theorem Nl.app {L' : Value} {l' : List Lq} (h : Nl w B g2 g6 L l a b W) (ho : EL.Own 30 W' B L' l') (g : W.grownBy W' L.ownBlock) : Nl w B g2 g6 L' l' a b W' := by
  have f : Fr (fun k => L.ownBlock = some k) W W' := Fr.grown g fun k e => e
  have hb := h.bel.grown g (by have := h.bel.size; omega) (fun k e => by have := (gown_lt h.own e).1; have := h.l2; have := h.l6; have := h.lB; omega)
  have hz := h.sz
  have hlB := h.lB
  have hl6 := h.l6
  exact ⟨ho, (f.at' g6 (by omega) (fun e => by have := (gown_lt h.own e).1; omega)).trans h.n6, (f.at' g2 (by omega) (fun e => by have := (gown_lt h.own e).1; omega)).trans h.n2, hb, Nat.le_trans h.sz f.size, h.l2, h.l6, h.lB⟩
end
end Go.Proofs.Ytcpcnjiphiokjaa
