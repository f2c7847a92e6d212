/- Texts of a proof, laid together: Wdt, Ua, Ub, Wdm. -/
import Derived.Laws.ResultCell
import Derived.Laws.CopyOwn
import Derived.Laws.Externs
import Derived.Lib.Overlaps
import Derived.Lib.AppendZerosOnto
import Derived.Shelf.RegionOpenPlain
import Derived.Lib.Walk
import Derived.Lib.SliceRun
import Derived.Test.YtbmlpokkojhhjaaG10
import Derived.Test.YtbmlpokkojhhjaaG06
import Derived.Test.YtbmlpokkojhhjaaG07
import Derived.Test.YtbmlpokkojhhjaaG01
/- The document's Take: a contract's data read field by field (by genWdt.py). -/
namespace Go.Proofs.Ytbmlpokkojhhjaa.Wt
open Go.RowKit
set_option linter.unusedVariables false
set_option linter.unusedSimpArgs false

section
variable {s : Sp}
theorem set0 (x : Int) : s.cells.setIfInBounds 0 (.int .u32 x) = ({ s with nu := x } : Sp).cells := by simp [Sp.cells, Sp.cellL]
theorem set1 (x : Int) : s.cells.setIfInBounds 1 (.int .u8 x) = ({ s with ro := x } : Sp).cells := by simp [Sp.cells, Sp.cellL]
theorem set2 (x : Int) : s.cells.setIfInBounds 2 (.int .i64 x) = ({ s with ti := x } : Sp).cells := by simp [Sp.cells, Sp.cellL]
theorem set3 (x : Int) : s.cells.setIfInBounds 3 (.int .i64 x) = ({ s with lo := x } : Sp).cells := by simp [Sp.cells, Sp.cellL]
theorem set4 (x : Int) : s.cells.setIfInBounds 4 (.int .i64 x) = ({ s with ba := x } : Sp).cells := by simp [Sp.cells, Sp.cellL]
theorem set5 (x : Int) : s.cells.setIfInBounds 5 (.int .i64 x) = ({ s with li := x } : Sp).cells := by simp [Sp.cells, Sp.cellL]
theorem set6 (h : s.sh.length = 16) (i : Nat) (hi : i < 16) (x : Int) : s.cells.setIfInBounds (6 + i) (.int .i64 x) = ({ s with sh := s.sh.set i x } : Sp).cells := by
  have hl : i < s.sh.length := by omega
  rw [show 6 + i = i + 1 + 1 + 1 + 1 + 1 + 1 by omega]
  simp [Sp.cells, Sp.cellL, hl, List.map_set]
theorem set22 (h : s.sh.length = 16) (x : Int) : s.cells.setIfInBounds 22 (.int .i64 x) = ({ s with cr := x } : Sp).cells := by simp [Sp.cells, Sp.cellL, h]
theorem set23 (h : s.sh.length = 16) (x : Int) : s.cells.setIfInBounds 23 (.int .u32 x) = ({ s with la := x } : Sp).cells := by simp [Sp.cells, Sp.cellL, h]
theorem set24 (h : s.sh.length = 16) (x : Int) : s.cells.setIfInBounds 24 (.int .i64 x) = ({ s with fi := x } : Sp).cells := by simp [Sp.cells, Sp.cellL, h]
end
theorem sR_most {bs : List Int} (hy : By bs) (e : Int) {m : Int} (hm : 0 ≤ m) : 0 ≤ (sR bs e m).1 ∧ (sR bs e m).1 ≤ m := by
  have hb := sR_bd hy e m
  refine ⟨hb.1, ?_⟩
  unfold sR
  split
  · exact hm
  · split
    · exact hm
    · split
      · exact hm
      · dsimp only; omega
theorem iR_by {bs : List Int} (hy : By bs) (e : Int) : By (iR bs e).2.1 ∧ (iR bs e).2.1.length ≤ bs.length := sR_by hy e top
theorem iR_fits {bs : List Int} (hy : By bs) (e : Int) : I64 (iR bs e).1 := by
  have hb := sR_bd hy e top
  show I64 (zz (sR bs e top).1)
  unfold zz I64
  split <;> omega









section
variable {w W W' : World} {g g3 n0 : Nat} {A0 : Option Addr} {s s' : Sp} {bs bs' : List Int} {e e' : Int}








































end
theorem iRs_fits : ∀ {bs : List Int} (e : Int) (k : Nat), By bs → (∀ x, x ∈ (iRs bs e k).1 → I64 x) ∧ By (iRs bs e k).2.1 ∧ (iRs bs e k).2.1.length ≤ bs.length
  | bs, e, 0, hy => ⟨fun x hx => by simp [iRs] at hx, hy, Nat.le_refl _⟩
  | bs, e, k + 1, hy => by
    obtain ⟨h1, h2, h3⟩ := iRs_fits e k hy
    have hb := iR_by h2 (iRs bs e k).2.2
    refine ⟨fun x hx => ?_, hb.1, Nat.le_trans hb.2 h3⟩
    simp only [iRs] at hx
    rcases List.mem_append.1 hx with m | m
    · exact h1 x m
    · rw [List.mem_singleton.1 m]; exact iR_fits h2 _
/-- Shifts read so far. -/
def shP (xs : List Int) : List Int := xs ++ List.replicate (16 - xs.length) 0
theorem shP_len {xs : List Int} (h : xs.length ≤ 16) : (shP xs).length = 16 := by unfold shP; rw [List.length_append, List.length_replicate]; omega
theorem shP_set {xs : List Int} (h : xs.length < 16) (x : Int) : (shP xs).set xs.length x = shP (xs ++ [x]) := by
  unfold shP
  obtain ⟨m, hm⟩ : ∃ m, 16 - xs.length = m + 1 := ⟨16 - xs.length - 1, by omega⟩
  rw [hm, List.replicate_succ, List.set_append_right _ _ (Nat.le_refl _), Nat.sub_self, List.set_cons_zero, List.length_append, List.length_singleton, show 16 - (xs.length + 1) = m by omega, List.append_assoc]
  rfl
theorem shP_all {xs : List Int} (h : xs.length = 16) : shP xs = xs := by unfold shP; rw [h]; simp
def mT : Nat → Int
  | 0 => 4294967295
  | 1 => 255
  | 7 => 4294967295
  | _ => 9223372036854775807












































































































































































































































































































































































































































































end Go.Proofs.Ytbmlpokkojhhjaa.Wt
/- Lists of structs and the library's search, insert, delete: plain facts, whatever the struct; no program's function, no program's type. -/
namespace Go.Proofs.Ytbmlpokkojhhjaa
open Go.RowKit Go.Shelf
set_option linter.unusedVariables false
set_option linter.unusedSimpArgs false

section
variable {α : Type} {E : Elt α}
/-- Where the first one is that meets a test; -1. -/
def gidx (p : α → Bool) (l : List α) : Int := match l.findIdx? p with | some k => (k : Int) | none => -1
theorem gidx_hit {p : α → Bool} {l : List α} {k : Nat} {x : α} (hx : l[k]? = some x) (hp : p x = true) (hn : ∀ (j : Nat) (y : α), j < k → l[j]? = some y → p y = false) : l.findIdx? p = some k := by
  obtain ⟨hk, rfl⟩ := List.getElem?_eq_some_iff.1 hx
  refine List.findIdx?_eq_some_iff_getElem.2 ⟨hk, hp, fun j hj => ?_⟩
  rw [hn j _ hj (List.getElem?_eq_getElem _)]
  decide
theorem gidx_miss {p : α → Bool} {l : List α} (hn : ∀ (j : Nat) (y : α), l[j]? = some y → p y = false) : l.findIdx? p = none := by
  refine List.findIdx?_eq_none_iff.2 fun y hy => ?_
  obtain ⟨j, hj⟩ := List.getElem?_of_mem hy
  exact hn j y hj
theorem gidx_cases (p : α → Bool) (l : List α) : (gidx p l = -1 ∧ ∀ y, y ∈ l → p y = false) ∨ ∃ (k : Nat) (x : α), gidx p l = k ∧ k < l.length ∧ l[k]? = some x ∧ p x = true ∧ ∀ (j : Nat) (y : α), j < k → l[j]? = some y → p y = false := by
  unfold gidx
  cases e : l.findIdx? p with
  | none => exact .inl ⟨rfl, List.findIdx?_eq_none_iff.1 e⟩
  | some k =>
    obtain ⟨hk, hp, hn⟩ := List.findIdx?_eq_some_iff_getElem.1 e
    refine .inr ⟨k, l[k], rfl, hk, List.getElem?_eq_getElem hk, hp, fun j y hj hy => ?_⟩
    obtain ⟨hj', rfl⟩ := List.getElem?_eq_some_iff.1 hy
    have := hn j hj
    simpa using this
/-- A test of a struct, told by a function value: it may lay blocks of its own. -/
def GTests (P : Program) (E : Elt α) (ok : α → Prop) (g : Nat) (lb : Array Value) (p : α → Bool) (w : World) : Prop :=
  ∀ (W : World) (x : α), Below w.heap.size w W → ok x → Calls P g (#[.agg (E.cells x).toArray] ++ lb) W fun e w' => e = .returned (.bool (p x)) ∧ Below W.heap.size W w'
theorem gins_len {l : List α} {x : α} {i n : Nat} (hl : l.length = n) (hi : i ≤ n) : (l.take i ++ x :: l.drop i).length = n + 1 := by
  rw [List.length_append, List.length_cons, List.length_take, List.length_drop, hl, Nat.min_eq_left hi]; omega
theorem gl_take {l : List α} {n i : Nat} (hl : l.length = n) (hi : i ≤ n) : (E.flat (l.take i)).length = i * E.N := by
  rw [gflat_len, List.length_take, hl, Nat.min_eq_left hi]
theorem gl_drop {l : List α} {n i : Nat} (hl : l.length = n) : (E.flat (l.drop i)).length = n * E.N - i * E.N := by
  rw [gflat_len, List.length_drop, hl, Nat.sub_mul]
/-- A row behind two copies: what stood from a place on is moved by one, and one is laid there. -/
theorem grow_ins {L : List Value} {l : List α} {x : α} {i n : Nat} (hl : l.length = n) (hi : i ≤ n) (hL : L.take (i * E.N) = E.flat (l.take i)) (hZ : (n + 1) * E.N ≤ L.length) :
    ((splice (splice L ((i + 1) * E.N) (E.flat (l.drop i))) (i * E.N) (E.cells x))).take ((n + 1) * E.N) = E.flat (l.take i ++ x :: l.drop i) ∧ (splice (splice L ((i + 1) * E.N) (E.flat (l.drop i))) (i * E.N) (E.cells x)).length = L.length := by
  have h1 := gl_drop (E := E) (i := i) hl
  have h3 := gl_take (E := E) hl hi
  have h2 := E.len x
  have hm := Nat.mul_le_mul_right E.N hi
  rw [Nat.succ_mul] at hZ ⊢
  rw [Nat.succ_mul]
  generalize i * E.N = a at *
  generalize n * E.N = b at *
  generalize E.N = M at *
  have l1 : (splice L (a + M) (E.flat (l.drop i))).length = L.length := length_splice _ _ _ (by rw [h1]; omega)
  refine ⟨?_, by rw [length_splice _ _ _ (by rw [l1, h2]; omega), l1]⟩
  have e1 : (splice L (a + M) (E.flat (l.drop i))).take a = E.flat (l.take i) := by
    unfold splice
    rw [List.take_append_of_le_length (by rw [List.length_take]; omega), List.take_take, Nat.min_eq_left (by omega), hL]
  have e2 : (splice L (a + M) (E.flat (l.drop i))).drop (a + M) = E.flat (l.drop i) ++ L.drop (a + M + (b - a)) := by
    unfold splice
    rw [List.drop_append_of_le_length (by rw [List.length_take]; omega), List.drop_take, show a + M - (a + M) = 0 by omega, List.take_zero, List.nil_append, h1]
  have e3 : splice (splice L (a + M) (E.flat (l.drop i))) a (E.cells x) = E.flat (l.take i) ++ (E.cells x ++ (E.flat (l.drop i) ++ L.drop (a + M + (b - a)))) := by
    rw [splice, e1, h2, e2]
  have e4 : E.flat (l.take i ++ x :: l.drop i) = E.flat (l.take i) ++ (E.cells x ++ E.flat (l.drop i)) := by rw [gflat_app, gflat_cons]
  rw [e3, e4, ← List.append_assoc (E.cells x), ← List.append_assoc (E.flat _)]
  rw [List.take_append_of_le_length (by rw [List.length_append, List.length_append, h1, h2, h3]; omega)]
  exact List.take_of_length_le (by rw [List.length_append, List.length_append, h1, h2, h3]; omega)
theorem grow_ins2 {L : List Value} {l : List α} {x : α} {i n : Nat} (hl : l.length = n) (hi : i ≤ n) (hL : L.take (i * E.N) = E.flat (l.take i)) (hZ : (n + 1) * E.N ≤ L.length) :
    (splice (splice L (i * E.N) (E.cells x)) ((i + 1) * E.N) (E.flat (l.drop i))).take ((n + 1) * E.N) = E.flat (l.take i ++ x :: l.drop i) ∧ (splice (splice L (i * E.N) (E.cells x)) ((i + 1) * E.N) (E.flat (l.drop i))).length = L.length := by
  have h1 := gl_drop (E := E) (i := i) hl
  have h3 := gl_take (E := E) hl hi
  have h2 := E.len x
  have hm := Nat.mul_le_mul_right E.N hi
  rw [Nat.succ_mul] at hZ ⊢
  rw [Nat.succ_mul]
  generalize i * E.N = a at *
  generalize n * E.N = b at *
  generalize E.N = M at *
  have l1 : (splice L a (E.cells x)).length = L.length := length_splice _ _ _ (by rw [h2]; omega)
  refine ⟨?_, by rw [length_splice _ _ _ (by rw [l1, h1]; omega), l1]⟩
  have e1 : (splice L a (E.cells x)).take (a + M) = E.flat (l.take i) ++ E.cells x := by
    rw [splice, hL, ← List.append_assoc, List.take_append_of_le_length (by rw [List.length_append, h2, h3]; omega)]
    exact List.take_of_length_le (by rw [List.length_append, h2, h3]; omega)
  have e4 : E.flat (l.take i ++ x :: l.drop i) = E.flat (l.take i) ++ (E.cells x ++ E.flat (l.drop i)) := by rw [gflat_app, gflat_cons]
  have e5 : splice (splice L a (E.cells x)) (a + M) (E.flat (l.drop i)) = (splice L a (E.cells x)).take (a + M) ++ (E.flat (l.drop i) ++ (splice L a (E.cells x)).drop (a + M + (E.flat (l.drop i)).length)) := rfl
  rw [e5, e1, e4, ← List.append_assoc, ← List.append_assoc (E.flat (l.take i)), List.take_append_of_le_length (by rw [List.length_append, List.length_append, h1, h2, h3]; omega)]
  exact List.take_of_length_le (by rw [List.length_append, List.length_append, h1, h2, h3]; omega)
/-- A row behind a delete: what stood behind a place is moved to it, and the last one is made noughts. -/
theorem grow_del {L : List Value} {l : List α} {i n : Nat} {Z : List Value} (hl : l.length = n + 1) (hi : i ≤ n) (hL : L.take ((n + 1) * E.N) = E.flat l) (hZ : (n + 1) * E.N ≤ L.length) (hz : Z.length = E.N) :
    (splice (splice L (i * E.N) (E.flat (l.drop (i + 1)))) (n * E.N) Z).take (n * E.N) = E.flat (l.eraseIdx i) ∧ (splice (splice L (i * E.N) (E.flat (l.drop (i + 1)))) (n * E.N) Z).length = L.length := by
  have h1 := gl_drop (E := E) (i := i + 1) hl
  have h3 := gl_take (E := E) hl (Nat.le_succ_of_le hi)
  have hm := Nat.mul_le_mul_right E.N hi
  have hA : L.take (i * E.N) = E.flat (l.take i) := by
    have := congrArg (List.take (i * E.N)) hL
    rw [List.take_take, gflat_take, Nat.min_eq_left (Nat.mul_le_mul_right E.N (Nat.le_succ_of_le hi))] at this
    exact this
  rw [Nat.succ_mul, Nat.succ_mul] at h1
  rw [Nat.succ_mul] at hZ
  generalize i * E.N = a at *
  generalize n * E.N = b at *
  generalize E.N = M at *
  have l1 : (splice L a (E.flat (l.drop (i + 1)))).length = L.length := length_splice _ _ _ (by rw [h1]; omega)
  refine ⟨?_, by rw [length_splice _ _ _ (by rw [l1, hz]; omega), l1]⟩
  rw [List.eraseIdx_eq_take_drop_succ, gflat_app, splice, List.take_append_of_le_length (by rw [List.length_take, l1]; omega), List.take_take, Nat.min_self, splice, hA, ← List.append_assoc, List.take_append_of_le_length (by rw [List.length_append, h1, h3]; omega)]
  exact List.take_of_length_le (by rw [List.length_append, h1, h3]; omega)
end
section
variable {α : Type} {E : Elt α} {P : Program} {ts te : TypeId}
/-- copy, into a row. -/
theorem grun_copy (T : EltT P E ts te) (w : World) (ty : TypeId) (g o dLen dCap : Nat) (a : Addr) (sLen sCap m : Nat) (cur : Array Value) (cs : List Value) (hg : w.heap[g]? = some (.cells cur te (0, 0))) (hm : Nat.min sLen dLen = m) (hn : cs.length = m * E.N)
    (hsrc : ∀ j v, cs[j]? = some v → w.cell? (a.add j) = some v) (hfit : o + cs.length ≤ cur.size) (h1 : ∀ v ∈ cs, v.oneCell' = true) :
    (Builtin.copy_ #[ts, ts] ty #[.slice (some ⟨g, o, none⟩) dLen dCap, .slice (some a) sLen sCap]).run P w = .ok (goInt m) (w.setRow g (splice cur.toList o cs).toArray) := by
  have hl := run_loadCells_list (P := P) w a cs hsrc
  have hst := run_storeCells_at P g o te cs 0 cur w hg (by simpa using hfit) h1
  obtain ⟨z, by', hi, _, _⟩ := T.info
  obtain ⟨i0, hi0, _, hz1, _⟩ := info_parts hi
  rw [splice, ← List.append_assoc]
  simp [Builtin.copy_, run_underlying T.und, Builtin.lenOf, Builtin.firstCells, sizeOf, typeInfo, hi0, hz1, hm, ← hn, hl, hst]
theorem gstep_copy {ops : Array Oper} {o : Oper} {a : Act} {w : World} {K : Act → World → Prop} {Q : Exit → Act → World → Prop} {X : Prop}
    (hg : o.guard = none) (d x : Operand) (dT sT : TypeId) (hop : o.op = Op.call { callee := Callee.builtin Builtin.copy, args := #[d, x], argTypes := #[dT, sT] })
    (v u : Value) (hd : a.eval d = v) (hx : a.eval x = u) {v' : Value} {w' : World} (hr : (Builtin.copy_ #[dT, sT] o.type #[v, u]).run P w = .ok v' w') (hK : K (a.put o.dst v') w') :
    if Region.wanted o (yielded ops a.tmps) = true then Oper.wp P o a w K Q else X := by
  have hw : Region.wanted o (yielded ops a.tmps) = true := by simp [Region.wanted, hg]
  rw [if_pos hw]
  unfold Oper.wp
  simp [execOp, hop, resolve, invoke, builtin, hd, hx, hr, Result.andThen]
  exact hK
theorem gwl_copy (w : World) {ops : Array Oper} {rest : List Oper} {o : Oper} {a : Act} {Q : Exit → Act → World → Prop} (hgd : o.guard = none) (d s : Operand) (t t' : TypeId)
    (ho : o.op = .call { callee := .builtin .copy, args := #[d, s], argTypes := #[t, t'] }) (v u : Value) (hd : a.eval d = v) (hs : a.eval s = u) {v' : Value} {w' : World}
    (hr : (Builtin.copy_ #[t, t'] o.type #[v, u]).run P w = .ok v' w') (h : wpList P ops Q rest (a.put o.dst v') w') : wpList P ops Q (o :: rest) a w :=
  wpList_plain hgd fun K hK => by
    unfold Oper.wp execOp
    simp only [ho, resolve, invoke, builtin, Sem.run_bind, Sem.run_pure, Result.andThen_ok, List.map_toArray, List.map_cons, List.map_nil, hd, hs, hr]
    exact hK _ _ h
/-- append upon a row that has room. -/
theorem grun_room (T : EltT P E ts te) (w : World) (ty : TypeId) (g sLen sCap : Nat) (cur : Array Value) (hg : w.heap[g]? = some (.cells cur te (0, 0))) (a : Addr) (m c : Nat) (news : List Value) (hl : news.length = m * E.N) (hnews : ∀ j u, news[j]? = some u → w.cell? (a.add j) = some u)
    (h1 : ∀ u ∈ news, u.oneCell' = true) (hroom : sLen + m ≤ sCap) (hfit : sLen * E.N + news.length ≤ cur.size) :
    (Builtin.append_ #[ts, ts] ty #[.slice (some ⟨g, 0, none⟩) sLen sCap, .slice (some a) m c]).run P w = .ok (.slice (some ⟨g, 0, none⟩) (sLen + m) sCap) (w.setRow g (splice cur.toList (sLen * E.N) news).toArray) := by
  obtain ⟨z, by', hi, _, _⟩ := T.info
  obtain ⟨i0, hi0, _, hz1, _⟩ := info_parts hi
  have := run_append_room (P := P) w ts ty te i0 T.und hi0 g sLen sCap cur hg a m c news (by rw [hz1]; exact hl) hnews h1 hroom (by rw [hz1]; exact hfit)
  rw [this, splice, hz1, ← List.append_assoc]
theorem gstep_append {ops : Array Oper} {o : Oper} {a : Act} {w : World} {K : Act → World → Prop} {Q : Exit → Act → World → Prop} {X : Prop}
    (hg : o.guard = none) (d x : Operand) (dT sT : TypeId) (hop : o.op = Op.call { callee := Callee.builtin Builtin.append, args := #[d, x], argTypes := #[dT, sT] })
    (v u : Value) (hd : a.eval d = v) (hx : a.eval x = u) {v' : Value} {w' : World} (hr : (Builtin.append_ #[dT, sT] o.type #[v, u]).run P w = .ok v' w') (hK : K (a.put o.dst v') w') :
    if Region.wanted o (yielded ops a.tmps) = true then Oper.wp P o a w K Q else X := by
  have hw : Region.wanted o (yielded ops a.tmps) = true := by simp [Region.wanted, hg]
  rw [if_pos hw]
  unfold Oper.wp
  simp [execOp, hop, resolve, invoke, builtin, hd, hx, hr, Result.andThen]
  exact hK
/-- clear, of a part of a row. -/
theorem grun_clear (T : EltT P E ts te) (w : World) (ty : TypeId) {z : Value} (hv : ∀ w, (zeroValue te).run P w = .ok z w) (hz : z.cells.size = E.N) (hz1 : ∀ u ∈ z.cells.toList, u.oneCell' = true) (g o n c : Nat) (cur : Array Value) (hg : w.heap[g]? = some (.cells cur te (0, 0))) (hn : 0 < n) (hfit : o + n * E.N ≤ cur.size) :
    (Builtin.clear_ #[ts] ty #[.slice (some ⟨g, o, none⟩) n c]).run P w = .ok (.tuple #[]) (w.setRow g (splice cur.toList o (Builtin.zeroCells z.cells n).toList).toArray) := by
  have hlen : (Builtin.zeroCells z.cells n).toList.length = n * E.N := by rw [Array.length_toList, size_zeroCells, hz]
  have h1 : ∀ u ∈ (Builtin.zeroCells z.cells n).toList, u.oneCell' = true := by
    intro u hu
    simp only [Builtin.zeroCells, Array.toList_map, List.mem_map] at hu
    obtain ⟨i, _, rfl⟩ := hu
    have hp : i % z.cells.size < z.cells.size := Nat.mod_lt _ (by rw [hz]; exact E.pos)
    rw [getElem!_pos z.cells _ hp]
    exact hz1 _ (by simp)
  have hst := run_storeCells_at P g o te _ 0 cur w hg (by rw [hlen]; simpa using hfit) h1
  obtain ⟨m, rfl⟩ : ∃ m, n = m + 1 := ⟨n - 1, by omega⟩
  rw [splice, ← List.append_assoc]
  simp only [Nat.add_zero] at hst
  simp [Builtin.clear_, run_underlying T.und, hv, hst]
theorem gwl_clear (w : World) {ops : Array Oper} {rest : List Oper} {o : Oper} {a : Act} {Q : Exit → Act → World → Prop} (hgd : o.guard = none) (s : Operand) (t : TypeId)
    (ho : o.op = .call { callee := .builtin .clear, args := #[s], argTypes := #[t] }) (v : Value) (hs : a.eval s = v) {v' : Value} {w' : World}
    (hr : (Builtin.clear_ #[t] o.type #[v]).run P w = .ok v' w') (h : wpList P ops Q rest (a.put o.dst v') w') : wpList P ops Q (o :: rest) a w :=
  wpList_plain hgd fun K hK => by
    unfold Oper.wp execOp
    simp only [ho, resolve, invoke, builtin, Sem.run_bind, Sem.run_pure, Result.andThen_ok, List.map_toArray, List.map_cons, List.map_nil, hs, hr]
    exact hK _ _ h
end
end Go.Proofs.Ytbmlpokkojhhjaa
/- One struct of a row written whole: plain facts, whatever the struct; no program's function, no program's type. -/
namespace Go.Proofs.Ytbmlpokkojhhjaa
open Go.RowKit Go.Shelf
set_option linter.unusedVariables false

theorem splice_set (L : List Value) (o : Nat) (v : Value) (r : List Value) (h : o + (r.length + 1) ≤ L.length) : splice (L.set o v) (o + 1) r = splice L o (v :: r) := by
  unfold splice
  have e1 : (L.set o v).take (o + 1) = L.take o ++ [v] := by
    rw [List.take_add_one, List.getElem?_set_self (by omega), List.take_set_of_le (Nat.le_refl _)]; rfl
  have e2 : (L.set o v).drop (o + 1 + r.length) = L.drop (o + (v :: r).length) := by
    rw [List.drop_set_of_lt (by omega), List.length_cons]; congr 1; omega
  rw [e1, e2, List.append_assoc]; rfl
theorem heap_setCells (b : Nat) (t : TypeId) : ∀ (vs : List Value) (o : Nat) (w : World) (cur : Array Value), w.heap[b]? = some (.cells cur t (0, 0)) → o + vs.length ≤ cur.size → (w.setCells b o vs).heap[b]? = some (.cells (splice cur.toList o vs).toArray t (0, 0))
  | [], o, w, cur, h, _ => by
    have e : splice cur.toList o [] = cur.toList := by simp [splice]
    rw [World.setCells, h, e]
  | v :: r, o, w, cur, h, hl => by
    rw [World.setCells]
    have h1 := heap_setCell_same w b o cur t v h
    have hl' : o + (r.length + 1) ≤ cur.size := hl
    rw [heap_setCells b t r (o + 1) _ _ h1 (by rw [Array.size_setIfInBounds]; omega), Array.toList_setIfInBounds, splice_set _ _ _ _ (by rw [Array.length_toList]; exact hl')]
theorem setCells_other (b : Nat) : ∀ (vs : List Value) (o : Nat) (w : World) (k : Nat), k ≠ b → (w.setCells b o vs).heap[k]? = w.heap[k]?
  | [], _, _, _, _ => rfl
  | v :: r, o, w, k, h => by
    rw [World.setCells, setCells_other b r (o + 1) _ k h]
    exact heap_setCell_other w _ k v h
theorem fr_cells {S : Nat → Prop} {b : Nat} (h : S b) : ∀ (vs : List Value) (o : Nat) (w : World), Fr S w (w.setCells b o vs)
  | [], _, w => Fr.refl _ _
  | v :: r, o, w => by
    rw [World.setCells]
    exact (Fr.set (p := ⟨b, o, none⟩) h v).same (fr_cells h r (o + 1) _)
section
variable {α : Type} {E : Elt α}
theorem gset_flat {L : List Value} {l : List α} {x y : α} {k n : Nat} (hl : l.length = n) (hk : k < n) (hL : L.take (n * E.N) = E.flat l) (hZ : n * E.N ≤ L.length) : (splice L (k * E.N) (E.cells y)).take (n * E.N) = E.flat (l.set k y) ∧ (splice L (k * E.N) (E.cells y)).length = L.length := by
  have h0 := E.len y
  have h1 : (E.flat (l.drop (k + 1))).length = n * E.N - (k * E.N + E.N) := by rw [gl_drop hl, Nat.succ_mul]
  have h3 := gl_take (E := E) hl (Nat.le_of_lt hk)
  have hm : k * E.N + E.N ≤ n * E.N := by rw [← Nat.succ_mul]; exact Nat.mul_le_mul_right E.N hk
  have hA : L.take (k * E.N) = E.flat (l.take k) := by
    have := congrArg (List.take (k * E.N)) hL
    rw [List.take_take, gflat_take, Nat.min_eq_left (by omega)] at this
    exact this
  have hB : (L.drop (k * E.N + E.N)).take (n * E.N - (k * E.N + E.N)) = E.flat (l.drop (k + 1)) := by
    rw [← gflat_drop, ← hL, Nat.succ_mul, List.drop_take]
  have hs : l.set k y = l.take k ++ y :: l.drop (k + 1) := by
    rw [List.set_eq_take_append_cons_drop, if_pos (by omega)]
  have e4 : E.flat (l.take k ++ y :: l.drop (k + 1)) = E.flat (l.take k) ++ (E.cells y ++ E.flat (l.drop (k + 1))) := by rw [gflat_app, gflat_cons]
  rw [hs, e4]
  generalize k * E.N = a at *
  generalize n * E.N = b at *
  generalize E.N = M at *
  refine ⟨?_, length_splice _ _ _ (by rw [h0]; omega)⟩
  rw [splice, hA, h0, List.take_append, h3, List.take_of_length_le (by rw [h3]; omega), List.take_append, h0, List.take_of_length_le (l := E.cells y) (by rw [h0]; omega), show b - a - M = b - (a + M) by omega, hB]
/-- One of a row of one's own written whole. -/
theorem gown_set {te : TypeId} {w : World} {B b n c : Nat} {l : List α} (h : E.Own te w B (.slice (some ⟨b, 0, none⟩) n c) l) {k : Nat} (hk : k < l.length) (y : α) : E.Own te (w.setCells b (k * E.N) (E.cells y)) B (.slice (some ⟨b, 0, none⟩) n c) (l.set k y) := by
  obtain ⟨A', c', e1, _⟩ := gown_form h
  obtain ⟨b', c1, cur, e2, hb, hh, hn, hm, hs, ht⟩ := h.2.resolve_left (fun c => by cases c.1)
  cases e1
  cases e2
  have hct : cur.toList.length = cur.size := Array.length_toList
  have hcs : l.length * E.N ≤ cur.toList.length := by rw [hct, hs]; exact Nat.mul_le_mul_right E.N hn
  obtain ⟨r1, r2⟩ := gset_flat (E := E) (L := cur.toList) (y := y) (x := y) rfl hk ht hcs
  have hk1 : k * E.N + E.N ≤ l.length * E.N := by rw [← Nat.succ_mul]; exact Nat.mul_le_mul_right E.N hk
  refine ⟨by rw [gflat_len], .inr ⟨b, c, _, by rw [List.length_set], hb, heap_setCells b te _ _ w cur hh (by rw [E.len]; omega), by rw [List.length_set]; exact hn, hm, ?_, ?_⟩⟩
  · rw [List.size_toArray, r2, hct, hs]
  · rw [List.length_set]; exact r1
theorem gown_there {te : TypeId} {w : World} {B b n c : Nat} {l : List α} (h : E.Own te w B (.slice (some ⟨b, 0, none⟩) n c) l) {k : Nat} {x : α} (hx : l[k]? = some x) (y : α) : w.there b (k * E.N) (E.cells y).toArray.size := fun j hj => by
  have hj' : j < E.N := by rw [List.size_toArray, E.len] at hj; exact hj
  refine ⟨?_, gown_fz h _⟩
  rw [gown_at h hx hj', List.getElem?_eq_getElem (by rw [E.len]; exact hj')]
  rfl
end
end Go.Proofs.Ytbmlpokkojhhjaa
/- What the document's ReadCommand keeps: a command in a block of its own, read field by field; what was read is the fields of any command with that form. -/
namespace Go.Proofs.Ytbmlpokkojhhjaa.Wt
open Go.RowKit Go.Shelf
set_option linter.unusedVariables false
set_option linter.unusedSimpArgs false

theorem cm_tset {c c' : Cm} {i : Nat} {v : Value} (hi : i < 5) (h1 : c'.hd = c.hd) (h2 : c'.sp = c.sp) (h3 : c'.tl = c.tl.set i v) : ECm.cells c' = (ECm.cells c).set (30 + i) v := by
  have e := sp_len15 c.len
  show c'.hd ++ (c'.sp.cellL ++ c'.tl) = (c.hd ++ (c.sp.cellL ++ c.tl)).set (30 + i) v
  rw [h1, h2, h3, List.set_append_right _ _ (by show 5 ≤ 30 + i; omega), List.set_append_right _ _ (by show c.sp.cellL.length ≤ 30 + i - 5; omega)]
  congr 3
  show i = 30 + i - 5 - c.sp.cellL.length
  omega
theorem cm_hset {c c' : Cm} {i : Nat} {v : Value} (hi : i < 5) (h1 : c'.hd = c.hd.set i v) (h2 : c'.sp = c.sp) (h3 : c'.tl = c.tl) : ECm.cells c' = (ECm.cells c).set i v := by
  show c'.hd ++ (c'.sp.cellL ++ c'.tl) = (c.hd ++ (c.sp.cellL ++ c.tl)).set i v
  rw [h1, h2, h3, List.set_append_left _ _ (by show i < 5; exact hi)]
theorem cm_splice {c : Cm} {s : Sp} (hs : s.sh.length = 16) : splice (ECm.cells c) 5 s.cellL = ECm.cells { c with sp := s, len := hs } := by
  have e := sp_len15 c.len
  have e2 := sp_len15 hs
  unfold splice
  show (c.hd ++ (c.sp.cellL ++ c.tl)).take 5 ++ (s.cellL ++ (c.hd ++ (c.sp.cellL ++ c.tl)).drop (5 + s.cellL.length)) = c.hd ++ (s.cellL ++ c.tl)
  rw [e2, List.take_left' (by rfl), ← List.drop_drop, List.drop_left' (by rfl), List.drop_left' e]










section
variable {w W W' : World} {gc n0 : Nat} {A0 : Option Addr} {c c' : Cm} {bs bs' : List Int} {e e' : Int}


















































end
section
variable {ops : Array Oper} {rest : List Oper} {a : Act} {w : World} {Q : Exit → Act → World → Prop} {d : Option Nat} {x y : Operand} {ty : TypeId} {ps : String} {af : Array Edge}
theorem wl_stsp15 {s : Sp} (hs : s.sh.length = 16) {b : Nat} (hb : w.there b 5 25) (hx : a.eval x = .pointer (some ⟨b, 5, none⟩)) (hy : a.eval y = .agg s.cells)
    (h : wpList Try.prog ops Q rest (a.put d undef) (w.setCells b 5 s.cellL)) : wpList Try.prog ops Q (⟨d, .store 27 x y, ty, ps, af, none⟩ :: rest) a w :=
  wpList_store_mid rfl 27 x y rfl b 5 s.cells hx hy (by rw [Sp.size hs]; exact hb) (by rw [info_sp, Sp.size hs]) s.one (by exact h)
end
/-- What was read so far, of any command with these bytes for its form. -/
def PC (bs0 : List Int) (c : Cm) (b : List Int) (e : Int) (k : Nat) : Prop := ∀ d, IsC bs0 d → e = 0 ∧ c.kd = d.kd ∧ b = ((flds d.kd).drop k).flatMap (fF d) ∧ (∀ i, i ∈ (flds d.kd).take k → eqF15 c d i) ∧ (∀ i, i < 10 → i ∉ (flds d.kd).take k → noF c i)
theorem PC.step {bs0 : List Int} {c c' : Cm} {b b' : List Int} {e e' : Int} {k i : Nat} (h : PC bs0 c b e k) (hi : (flds c.kd)[k]? = some i) (hkd : c'.kd = c.kd) (h1 : ∀ j, j < 10 → j ≠ i → ∀ d, eqF15 c d j → eqF15 c' d j) (h2 : ∀ j, j < 10 → j ≠ i → noF c j → noF c' j)
    (hr : ∀ d r, d.ok → (i = 4 → mayB d.sp = true) → e = 0 → b = fF d i ++ r → b' = r ∧ e' = 0 ∧ eqF15 c' d i) : PC bs0 c' b' e' (k + 1) := fun d hd => by
  obtain ⟨a1, a2, a3, a4, a5⟩ := h d hd
  rw [a2] at hi
  have hk := (List.getElem?_eq_some_iff.1 hi).1
  have tk : (flds d.kd).take (k + 1) = (flds d.kd).take k ++ [i] := by rw [List.take_add_one, hi]; rfl
  have dr : (flds d.kd).drop k = i :: (flds d.kd).drop (k + 1) := by
    rw [List.getElem?_eq_getElem hk] at hi
    cases hi
    rw [List.getElem_cons_drop]
  rw [dr, List.flatMap_cons] at a3
  obtain ⟨b1, b2, b3⟩ := hr d _ hd.1 (fun e4 => hd.2.1.sp (by rw [← e4]; exact List.mem_of_getElem? hi)) a1 a3
  refine ⟨b2, hkd.trans a2, b1, fun j hj => ?_, fun j hj hn => ?_⟩
  · by_cases ej : j = i
    · rw [ej]; exact b3
    · rw [tk] at hj
      rcases List.mem_append.1 hj with m | m
      · exact h1 j (flds_lt _ j (List.mem_of_mem_take m)) ej d (a4 j m)
      · exact absurd (List.mem_singleton.1 m) ej
  · rw [tk] at hn
    have ej : j ≠ i := fun e => hn (List.mem_append.2 (.inr (by rw [e]; exact List.mem_singleton.2 rfl)))
    exact h2 j hj ej (a5 j hj fun m => hn (List.mem_append.2 (.inl m)))
theorem PC.all {bs0 : List Int} {c : Cm} {b : List Int} {e : Int} {k : Nat} (h : PC bs0 c b e k) (hk : k = (flds c.kd).length) {d : Cm} (hd : IsC bs0 d) : e = 0 ∧ b = [] ∧ c = d := by
  obtain ⟨a1, a2, a3, a4, a5⟩ := h d hd
  rw [a2] at hk
  subst hk
  rw [List.drop_length] at a3
  rw [List.take_length] at a4 a5
  exact ⟨a1, a3, cm_eq a2 fun i hi => by
    by_cases m : i ∈ flds d.kd
    · exact a4 i m
    · exact eq_of_no i hi (a5 i hi m) (hd.2.1.no i hi m)⟩
theorem PC.start {bs0 : List Int} (hy : By bs0) {v : Int} {b : List Int} {e : Int} (hr : sR bs0 0 14 = (v, b, e)) {c : Cm} (hc : c.kd = v) (h0 : ∀ i, i < 10 → noF c i) : PC bs0 c b e 0 := fun d hd => by
  have k := hd.2.1.kd
  have f := hd.2.2
  unfold formC at f
  have q := sR_form (n := d.kd.toNat) (by omega) (most := 14) (by omega) ((flds d.kd).flatMap (fF d))
  rw [f, hr] at q
  simp only [Prod.mk.injEq] at q
  exact ⟨q.2.2, by omega, q.2.1, fun i hi => by simp at hi, fun i hi _ => h0 i hi⟩
end Go.Proofs.Ytbmlpokkojhhjaa.Wt
