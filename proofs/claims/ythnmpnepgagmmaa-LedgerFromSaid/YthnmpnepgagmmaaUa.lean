/- Lists of structs and the library's search, insert, delete: plain facts, whatever the struct; no program's function, no program's type. -/
import Derived.Test.YthnmpnepgagmmaaSa
import Derived.Laws.CopyOwn
import Derived.Laws.Externs
import Derived.Lib.Overlaps
import Derived.Lib.AppendZerosOnto
import Derived.Shelf.RegionOpenPlain
import Derived.Lib.Walk
import Derived.Lib.SliceRun
namespace Go.Proofs.Ythnmpnepgagmmaa
open Go.RowKit Go.Shelf
set_option linter.unusedVariables false
set_option linter.unusedSimpArgs false

section
variable {α : Type} {E : Elt α}
/-- Where the first one is that meets a test; -1. -/
def gidx (p : α → Bool) (l : List α) : Int := match l.findIdx? p with | some k => (k : Int) | none => -1
theorem gidx_hit {p : α → Bool} {l : List α} {k : Nat} {x : α} (hx : l[k]? = some x) (hp : p x = true) (hn : ∀ (j : Nat) (y : α), j < k → l[j]? = some y → p y = false) : l.findIdx? p = some k := by
  obtain ⟨hk, rfl⟩ := List.getElem?_eq_some_iff.1 hx
  refine List.findIdx?_eq_some_iff_getElem.2 ⟨hk, hp, fun j hj => ?_⟩
  rw [hn j _ hj (List.getElem?_eq_getElem _)]
  decide
theorem gidx_miss {p : α → Bool} {l : List α} (hn : ∀ (j : Nat) (y : α), l[j]? = some y → p y = false) : l.findIdx? p = none := by
  refine List.findIdx?_eq_none_iff.2 fun y hy => ?_
  obtain ⟨j, hj⟩ := List.getElem?_of_mem hy
  exact hn j y hj
theorem gidx_cases (p : α → Bool) (l : List α) : (gidx p l = -1 ∧ ∀ y, y ∈ l → p y = false) ∨ ∃ (k : Nat) (x : α), gidx p l = k ∧ k < l.length ∧ l[k]? = some x ∧ p x = true ∧ ∀ (j : Nat) (y : α), j < k → l[j]? = some y → p y = false := by
  unfold gidx
  cases e : l.findIdx? p with
  | none => exact .inl ⟨rfl, List.findIdx?_eq_none_iff.1 e⟩
  | some k =>
    obtain ⟨hk, hp, hn⟩ := List.findIdx?_eq_some_iff_getElem.1 e
    refine .inr ⟨k, l[k], rfl, hk, List.getElem?_eq_getElem hk, hp, fun j y hj hy => ?_⟩
    obtain ⟨hj', rfl⟩ := List.getElem?_eq_some_iff.1 hy
    have := hn j hj
    simpa using this
/-- A test of a struct, told by a function value: it may lay blocks of its own. -/
def GTests (P : Program) (E : Elt α) (ok : α → Prop) (g : Nat) (lb : Array Value) (p : α → Bool) (w : World) : Prop :=
  ∀ (W : World) (x : α), Below w.heap.size w W → ok x → Calls P g (#[.agg (E.cells x).toArray] ++ lb) W fun e w' => e = .returned (.bool (p x)) ∧ Below W.heap.size W w'
theorem gins_len {l : List α} {x : α} {i n : Nat} (hl : l.length = n) (hi : i ≤ n) : (l.take i ++ x :: l.drop i).length = n + 1 := by
  rw [List.length_append, List.length_cons, List.length_take, List.length_drop, hl, Nat.min_eq_left hi]; omega
theorem gl_take {l : List α} {n i : Nat} (hl : l.length = n) (hi : i ≤ n) : (E.flat (l.take i)).length = i * E.N := by
  rw [gflat_len, List.length_take, hl, Nat.min_eq_left hi]
theorem gl_drop {l : List α} {n i : Nat} (hl : l.length = n) : (E.flat (l.drop i)).length = n * E.N - i * E.N := by
  rw [gflat_len, List.length_drop, hl, Nat.sub_mul]
/-- A row behind two copies: what stood from a place on is moved by one, and one is laid there. -/
theorem grow_ins {L : List Value} {l : List α} {x : α} {i n : Nat} (hl : l.length = n) (hi : i ≤ n) (hL : L.take (i * E.N) = E.flat (l.take i)) (hZ : (n + 1) * E.N ≤ L.length) :
    ((splice (splice L ((i + 1) * E.N) (E.flat (l.drop i))) (i * E.N) (E.cells x))).take ((n + 1) * E.N) = E.flat (l.take i ++ x :: l.drop i) ∧ (splice (splice L ((i + 1) * E.N) (E.flat (l.drop i))) (i * E.N) (E.cells x)).length = L.length := by
  have h1 := gl_drop (E := E) (i := i) hl
  have h3 := gl_take (E := E) hl hi
  have h2 := E.len x
  have hm := Nat.mul_le_mul_right E.N hi
  rw [Nat.succ_mul] at hZ ⊢
  rw [Nat.succ_mul]
  generalize i * E.N = a at *
  generalize n * E.N = b at *
  generalize E.N = M at *
  have l1 : (splice L (a + M) (E.flat (l.drop i))).length = L.length := length_splice _ _ _ (by rw [h1]; omega)
  refine ⟨?_, by rw [length_splice _ _ _ (by rw [l1, h2]; omega), l1]⟩
  have e1 : (splice L (a + M) (E.flat (l.drop i))).take a = E.flat (l.take i) := by
    unfold splice
    rw [List.take_append_of_le_length (by rw [List.length_take]; omega), List.take_take, Nat.min_eq_left (by omega), hL]
  have e2 : (splice L (a + M) (E.flat (l.drop i))).drop (a + M) = E.flat (l.drop i) ++ L.drop (a + M + (b - a)) := by
    unfold splice
    rw [List.drop_append_of_le_length (by rw [List.length_take]; omega), List.drop_take, show a + M - (a + M) = 0 by omega, List.take_zero, List.nil_append, h1]
  have e3 : splice (splice L (a + M) (E.flat (l.drop i))) a (E.cells x) = E.flat (l.take i) ++ (E.cells x ++ (E.flat (l.drop i) ++ L.drop (a + M + (b - a)))) := by
    rw [splice, e1, h2, e2]
  have e4 : E.flat (l.take i ++ x :: l.drop i) = E.flat (l.take i) ++ (E.cells x ++ E.flat (l.drop i)) := by rw [gflat_app, gflat_cons]
  rw [e3, e4, ← List.append_assoc (E.cells x), ← List.append_assoc (E.flat _)]
  rw [List.take_append_of_le_length (by rw [List.length_append, List.length_append, h1, h2, h3]; omega)]
  exact List.take_of_length_le (by rw [List.length_append, List.length_append, h1, h2, h3]; omega)
theorem grow_ins2 {L : List Value} {l : List α} {x : α} {i n : Nat} (hl : l.length = n) (hi : i ≤ n) (hL : L.take (i * E.N) = E.flat (l.take i)) (hZ : (n + 1) * E.N ≤ L.length) :
    (splice (splice L (i * E.N) (E.cells x)) ((i + 1) * E.N) (E.flat (l.drop i))).take ((n + 1) * E.N) = E.flat (l.take i ++ x :: l.drop i) ∧ (splice (splice L (i * E.N) (E.cells x)) ((i + 1) * E.N) (E.flat (l.drop i))).length = L.length := by
  have h1 := gl_drop (E := E) (i := i) hl
  have h3 := gl_take (E := E) hl hi
  have h2 := E.len x
  have hm := Nat.mul_le_mul_right E.N hi
  rw [Nat.succ_mul] at hZ ⊢
  rw [Nat.succ_mul]
  generalize i * E.N = a at *
  generalize n * E.N = b at *
  generalize E.N = M at *
  have l1 : (splice L a (E.cells x)).length = L.length := length_splice _ _ _ (by rw [h2]; omega)
  refine ⟨?_, by rw [length_splice _ _ _ (by rw [l1, h1]; omega), l1]⟩
  have e1 : (splice L a (E.cells x)).take (a + M) = E.flat (l.take i) ++ E.cells x := by
    rw [splice, hL, ← List.append_assoc, List.take_append_of_le_length (by rw [List.length_append, h2, h3]; omega)]
    exact List.take_of_length_le (by rw [List.length_append, h2, h3]; omega)
  have e4 : E.flat (l.take i ++ x :: l.drop i) = E.flat (l.take i) ++ (E.cells x ++ E.flat (l.drop i)) := by rw [gflat_app, gflat_cons]
  have e5 : splice (splice L a (E.cells x)) (a + M) (E.flat (l.drop i)) = (splice L a (E.cells x)).take (a + M) ++ (E.flat (l.drop i) ++ (splice L a (E.cells x)).drop (a + M + (E.flat (l.drop i)).length)) := rfl
  rw [e5, e1, e4, ← List.append_assoc, ← List.append_assoc (E.flat (l.take i)), List.take_append_of_le_length (by rw [List.length_append, List.length_append, h1, h2, h3]; omega)]
  exact List.take_of_length_le (by rw [List.length_append, List.length_append, h1, h2, h3]; omega)
/-- A row behind a delete: what stood behind a place is moved to it, and the last one is made noughts. -/
theorem grow_del {L : List Value} {l : List α} {i n : Nat} {Z : List Value} (hl : l.length = n + 1) (hi : i ≤ n) (hL : L.take ((n + 1) * E.N) = E.flat l) (hZ : (n + 1) * E.N ≤ L.length) (hz : Z.length = E.N) :
    (splice (splice L (i * E.N) (E.flat (l.drop (i + 1)))) (n * E.N) Z).take (n * E.N) = E.flat (l.eraseIdx i) ∧ (splice (splice L (i * E.N) (E.flat (l.drop (i + 1)))) (n * E.N) Z).length = L.length := by
  have h1 := gl_drop (E := E) (i := i + 1) hl
  have h3 := gl_take (E := E) hl (Nat.le_succ_of_le hi)
  have hm := Nat.mul_le_mul_right E.N hi
  have hA : L.take (i * E.N) = E.flat (l.take i) := by
    have := congrArg (List.take (i * E.N)) hL
    rw [List.take_take, gflat_take, Nat.min_eq_left (Nat.mul_le_mul_right E.N (Nat.le_succ_of_le hi))] at this
    exact this
  rw [Nat.succ_mul, Nat.succ_mul] at h1
  rw [Nat.succ_mul] at hZ
  generalize i * E.N = a at *
  generalize n * E.N = b at *
  generalize E.N = M at *
  have l1 : (splice L a (E.flat (l.drop (i + 1)))).length = L.length := length_splice _ _ _ (by rw [h1]; omega)
  refine ⟨?_, by rw [length_splice _ _ _ (by rw [l1, hz]; omega), l1]⟩
  rw [List.eraseIdx_eq_take_drop_succ, gflat_app, splice, List.take_append_of_le_length (by rw [List.length_take, l1]; omega), List.take_take, Nat.min_self, splice, hA, ← List.append_assoc, List.take_append_of_le_length (by rw [List.length_append, h1, h3]; omega)]
  exact List.take_of_length_le (by rw [List.length_append, h1, h3]; omega)
end
section
variable {α : Type} {E : Elt α} {P : Program} {ts te : TypeId}
/-- copy, into a row. -/
theorem grun_copy (T : EltT P E ts te) (w : World) (ty : TypeId) (g o dLen dCap : Nat) (a : Addr) (sLen sCap m : Nat) (cur : Array Value) (cs : List Value) (hg : w.heap[g]? = some (.cells cur te (0, 0))) (hm : Nat.min sLen dLen = m) (hn : cs.length = m * E.N)
    (hsrc : ∀ j v, cs[j]? = some v → w.cell? (a.add j) = some v) (hfit : o + cs.length ≤ cur.size) (h1 : ∀ v ∈ cs, v.oneCell' = true) :
    (Builtin.copy_ #[ts, ts] ty #[.slice (some ⟨g, o, none⟩) dLen dCap, .slice (some a) sLen sCap]).run P w = .ok (goInt m) (w.setRow g (splice cur.toList o cs).toArray) := by
  have hl := run_loadCells_list (P := P) w a cs hsrc
  have hst := run_storeCells_at P g o te cs 0 cur w hg (by simpa using hfit) h1
  obtain ⟨z, by', hi, _, _⟩ := T.info
  obtain ⟨i0, hi0, _, hz1, _⟩ := info_parts hi
  rw [splice, ← List.append_assoc]
  simp [Builtin.copy_, run_underlying T.und, Builtin.lenOf, Builtin.firstCells, sizeOf, typeInfo, hi0, hz1, hm, ← hn, hl, hst]
theorem gstep_copy {ops : Array Oper} {o : Oper} {a : Act} {w : World} {K : Act → World → Prop} {Q : Exit → Act → World → Prop} {X : Prop}
    (hg : o.guard = none) (d x : Operand) (dT sT : TypeId) (hop : o.op = Op.call { callee := Callee.builtin Builtin.copy, args := #[d, x], argTypes := #[dT, sT] })
    (v u : Value) (hd : a.eval d = v) (hx : a.eval x = u) {v' : Value} {w' : World} (hr : (Builtin.copy_ #[dT, sT] o.type #[v, u]).run P w = .ok v' w') (hK : K (a.put o.dst v') w') :
    if Region.wanted o (yielded ops a.tmps) = true then Oper.wp P o a w K Q else X := by
  have hw : Region.wanted o (yielded ops a.tmps) = true := by simp [Region.wanted, hg]
  rw [if_pos hw]
  unfold Oper.wp
  simp [execOp, hop, resolve, invoke, builtin, hd, hx, hr, Result.andThen]
  exact hK
theorem gwl_copy (w : World) {ops : Array Oper} {rest : List Oper} {o : Oper} {a : Act} {Q : Exit → Act → World → Prop} (hgd : o.guard = none) (d s : Operand) (t t' : TypeId)
    (ho : o.op = .call { callee := .builtin .copy, args := #[d, s], argTypes := #[t, t'] }) (v u : Value) (hd : a.eval d = v) (hs : a.eval s = u) {v' : Value} {w' : World}
    (hr : (Builtin.copy_ #[t, t'] o.type #[v, u]).run P w = .ok v' w') (h : wpList P ops Q rest (a.put o.dst v') w') : wpList P ops Q (o :: rest) a w :=
  wpList_plain hgd fun K hK => by
    unfold Oper.wp execOp
    simp only [ho, resolve, invoke, builtin, Sem.run_bind, Sem.run_pure, Result.andThen_ok, List.map_toArray, List.map_cons, List.map_nil, hd, hs, hr]
    exact hK _ _ h
/-- append upon a row that has room. -/
theorem grun_room (T : EltT P E ts te) (w : World) (ty : TypeId) (g sLen sCap : Nat) (cur : Array Value) (hg : w.heap[g]? = some (.cells cur te (0, 0))) (a : Addr) (m c : Nat) (news : List Value) (hl : news.length = m * E.N) (hnews : ∀ j u, news[j]? = some u → w.cell? (a.add j) = some u)
    (h1 : ∀ u ∈ news, u.oneCell' = true) (hroom : sLen + m ≤ sCap) (hfit : sLen * E.N + news.length ≤ cur.size) :
    (Builtin.append_ #[ts, ts] ty #[.slice (some ⟨g, 0, none⟩) sLen sCap, .slice (some a) m c]).run P w = .ok (.slice (some ⟨g, 0, none⟩) (sLen + m) sCap) (w.setRow g (splice cur.toList (sLen * E.N) news).toArray) := by
  obtain ⟨z, by', hi, _, _⟩ := T.info
  obtain ⟨i0, hi0, _, hz1, _⟩ := info_parts hi
  have := run_append_room (P := P) w ts ty te i0 T.und hi0 g sLen sCap cur hg a m c news (by rw [hz1]; exact hl) hnews h1 hroom (by rw [hz1]; exact hfit)
  rw [this, splice, hz1, ← List.append_assoc]
theorem gstep_append {ops : Array Oper} {o : Oper} {a : Act} {w : World} {K : Act → World → Prop} {Q : Exit → Act → World → Prop} {X : Prop}
    (hg : o.guard = none) (d x : Operand) (dT sT : TypeId) (hop : o.op = Op.call { callee := Callee.builtin Builtin.append, args := #[d, x], argTypes := #[dT, sT] })
    (v u : Value) (hd : a.eval d = v) (hx : a.eval x = u) {v' : Value} {w' : World} (hr : (Builtin.append_ #[dT, sT] o.type #[v, u]).run P w = .ok v' w') (hK : K (a.put o.dst v') w') :
    if Region.wanted o (yielded ops a.tmps) = true then Oper.wp P o a w K Q else X := by
  have hw : Region.wanted o (yielded ops a.tmps) = true := by simp [Region.wanted, hg]
  rw [if_pos hw]
  unfold Oper.wp
  simp [execOp, hop, resolve, invoke, builtin, hd, hx, hr, Result.andThen]
  exact hK
/-- clear, of a part of a row. -/
theorem grun_clear (T : EltT P E ts te) (w : World) (ty : TypeId) {z : Value} (hv : ∀ w, (zeroValue te).run P w = .ok z w) (hz : z.cells.size = E.N) (hz1 : ∀ u ∈ z.cells.toList, u.oneCell' = true) (g o n c : Nat) (cur : Array Value) (hg : w.heap[g]? = some (.cells cur te (0, 0))) (hn : 0 < n) (hfit : o + n * E.N ≤ cur.size) :
    (Builtin.clear_ #[ts] ty #[.slice (some ⟨g, o, none⟩) n c]).run P w = .ok (.tuple #[]) (w.setRow g (splice cur.toList o (Builtin.zeroCells z.cells n).toList).toArray) := by
  have hlen : (Builtin.zeroCells z.cells n).toList.length = n * E.N := by rw [Array.length_toList, size_zeroCells, hz]
  have h1 : ∀ u ∈ (Builtin.zeroCells z.cells n).toList, u.oneCell' = true := by
    intro u hu
    simp only [Builtin.zeroCells, Array.toList_map, List.mem_map] at hu
    obtain ⟨i, _, rfl⟩ := hu
    have hp : i % z.cells.size < z.cells.size := Nat.mod_lt _ (by rw [hz]; exact E.pos)
    rw [getElem!_pos z.cells _ hp]
    exact hz1 _ (by simp)
  have hst := run_storeCells_at P g o te _ 0 cur w hg (by rw [hlen]; simpa using hfit) h1
  obtain ⟨m, rfl⟩ : ∃ m, n = m + 1 := ⟨n - 1, by omega⟩
  rw [splice, ← List.append_assoc]
  simp only [Nat.add_zero] at hst
  simp [Builtin.clear_, run_underlying T.und, hv, hst]
theorem gwl_clear (w : World) {ops : Array Oper} {rest : List Oper} {o : Oper} {a : Act} {Q : Exit → Act → World → Prop} (hgd : o.guard = none) (s : Operand) (t : TypeId)
    (ho : o.op = .call { callee := .builtin .clear, args := #[s], argTypes := #[t] }) (v : Value) (hs : a.eval s = v) {v' : Value} {w' : World}
    (hr : (Builtin.clear_ #[t] o.type #[v]).run P w = .ok v' w') (h : wpList P ops Q rest (a.put o.dst v') w') : wpList P ops Q (o :: rest) a w :=
  wpList_plain hgd fun K hK => by
    unfold Oper.wp execOp
    simp only [ho, resolve, invoke, builtin, Sem.run_bind, Sem.run_pure, Result.andThen_ok, List.map_toArray, List.map_cons, List.map_nil, hs, hr]
    exact hK _ _ h
end
end Go.Proofs.Ythnmpnepgagmmaa
