/- Two copies of the stakes, one without orders, one with an order more; no walk. -/
import Derived.Test.YtcpcnjiphiokjaaExn
import Derived.Test.YtcpcnjiphiokjaaExv
namespace Go.Proofs.Ytcpcnjiphiokjaa
open Go.RowKit
set_option linter.unusedVariables false
set_option linter.unusedSimpArgs false

theorem zero_cells11 : (EN.cells zeroNd).toArray = #[.int .i64 0, .int .i64 0, .int .i64 0] := rfl
/-- The first k without orders. -/
def baK (l : List Sk) (k : Nat) : List Sk := (l.take k).map bareK ++ l.drop k
theorem ba_len (l : List Sk) (k : Nat) : (baK l k).length = l.length := by
  simp only [baK, List.length_append, List.length_map, List.length_take, List.length_drop]
  omega
theorem ba_at {l : List Sk} {k : Nat} {x : Sk} (h : l[k]? = some x) : (baK l k)[k]? = some x := by
  have hk := (List.getElem?_eq_some_iff.1 h).1
  unfold baK
  rw [List.getElem?_append_right (by rw [List.length_map, List.length_take]; omega), List.length_map, List.length_take, Nat.min_eq_left (by omega), Nat.sub_self, List.getElem?_drop, Nat.add_zero, h]
theorem ba_set {l : List Sk} {k : Nat} {x : Sk} (h : l[k]? = some x) : (baK l k).set k (bareK x) = baK l (k + 1) := by
  obtain ⟨hk, e⟩ := List.getElem?_eq_some_iff.1 h
  unfold baK
  rw [List.set_append_right _ _ (by rw [List.length_map, List.length_take]; omega), List.length_map, List.length_take, Nat.min_eq_left (by omega), Nat.sub_self, List.drop_eq_getElem_cons hk, List.set_cons_zero, take_g h, List.map_append, List.append_assoc]
  rfl
theorem ba_zero (l : List Sk) : baK l 0 = l := by simp [baK]
theorem ba_all (l : List Sk) : baK l l.length = l.map bareK := by simp [baK]
theorem bare_cells (x : Sk) : EK.cells (bareK x) = (EK.cells x).set 28 (.slice none 0 0) := sk_set x none 0 0 []
theorem bare_ok {x : Sk} (h : x.ok) (W : World) : (bareK x).ok ∧ (bareK x).In W :=
  ⟨⟨h.lg, h.ba, h.pr, (fun o ho => by cases ho), Nat.zero_le _, fun _ => rfl, Nat.le_refl _⟩, grd_nil W none⟩
theorem sumK_set {f : Sk → Int} : ∀ {l : List Sk} {k : Nat} {x : Sk} (y : Sk), l[k]? = some x → sumK f (l.set k y) = sumK f l - f x + f y
  | [], _, _, _, h => by simp at h
  | z :: l, 0, x, y, h => by
    obtain rfl : z = x := by simpa using h
    show f y + sumK f l = f z + sumK f l - f z + f y
    omega
  | z :: l, k + 1, x, y, h => by
    have := sumK_set (f := f) y (show l[k]? = some x by simpa using h)
    show f z + sumK f (l.set k y) = f z + sumK f l - f x + f y
    omega
theorem lgK_set : ∀ {l : List Sk} {k : Nat} {x : Sk} (y : Sk), l[k]? = some x → y.lg = x.lg → lgK (l.set k y) = lgK l
  | [], _, _, _, h, _ => by simp at h
  | z :: l, 0, x, y, h, e => by
    obtain rfl : z = x := by simpa using h
    simp [lgK, e]
  | z :: l, k + 1, x, y, h, e => by
    have := lgK_set y (show l[k]? = some x by simpa using h) e
    simp only [lgK, List.set_cons_succ, List.map_cons] at this ⊢
    rw [this]
/-- An order more. -/
theorem more_ne {l : List Sk} {k : Nat} {x y : Sk} {o : Or} (h : neE l = 0) (hx : l[k]? = some x) (e1 : y.lg = x.lg) (e2 : y.pr = x.pr) (e3 : y.os = x.os ++ [o]) (e4 : y.ba = x.ba) (h2 : neE (l.set k y) = 0) : (neN l).w ≤ (neN (l.set k y)).w ∧ (neN (l.set k y)).m = (neN l).m ∧ (neN (l.set k y)).u = (neN l).u := by
  obtain ⟨a1, a2, a3⟩ := ne_ok h
  obtain ⟨b1, b2, b3⟩ := ne_ok h2
  have hk := (List.getElem?_eq_some_iff.1 hx).1
  have my : y ∈ l.set k y := List.mem_set hk y
  have := more_ws (b1.2 y my) e1 e2 e3 (a1.2 x (List.mem_of_getElem? hx))
  have s1 := sumK_set (f := wsK) y hx
  have s2 := sumK_set (f := mkK) y hx
  have s3 : mkK y = mkK x := by unfold mkK; rw [e1, e2, e4]
  rw [a3, b3, lgK_set y hx e1]
  refine ⟨?_, rfl, ?_⟩
  · show sumK wsK l ≤ sumK wsK (l.set k y)
    omega
  · show max (sumK mkK (l.set k y)) 0 = max (sumK mkK l) 0
    rw [s2, s3]
    congr 1
    omega
/-- Both copies in memory. -/
structure Gb (W0 : World) (B7 B9 : Nat) (v7 v9 : Value) (l7 l9 : List Sk) (W : World) : Prop where
  o7 : EK.Own 33 W B7 v7 l7
  o9 : EK.Own 33 W B9 v9 l9
  lt : ∀ k, v7.ownBlock = some k → k < B9
  b0 : Below W0.heap.size W0 W
  le : W0.heap.size ≤ B7
  l9 : B7 ≤ B9
section
variable {W0 W W' : World} {B7 B9 : Nat} {v7 v9 : Value} {l7 l9 : List Sk}
theorem Gb.below (h : Gb W0 B7 B9 v7 v9 l7 l9 W) (q : Below W.heap.size W W') : Gb W0 B7 B9 v7 v9 l7 l9 W' :=
  ⟨gown_below h.o7 q, gown_below h.o9 q, h.lt, h.b0.trans (q.mono h.b0.size), h.le, h.l9⟩
theorem Gb.bare {b n c k : Nat} {x : Sk} (h : Gb W0 B7 B9 (.slice (some ⟨b, 0, none⟩) n c) v9 l7 l9 W) (hk : l7[k]? = some x) : Gb W0 B7 B9 (.slice (some ⟨b, 0, none⟩) n c) v9 (l7.set k (bareK x)) l9 (W.setCell ⟨b, k * 29 + 28, none⟩ (.slice none 0 0)) := by
  have f : Fr (fun j => j = b) W (W.setCell ⟨b, k * 29 + 28, none⟩ (.slice none 0 0)) := Fr.set (S := fun j => j = b) (p := ⟨b, k * 29 + 28, none⟩) rfl _
  have hb := h.lt b rfl
  have hb7 := (gown_lt h.o7 (k := b) rfl).1
  have hle := h.le
  exact ⟨gown_put h.o7 hk (i := 28) (by decide) (bare_cells x), gown_fr h.o9 f (fun j hj e => by have := (gown_lt h.o9 hj).1; omega), h.lt, h.b0.setCell (by show _ ≤ b; omega) _, h.le, h.l9⟩
theorem Gb.wide {b n c k : Nat} {x : Sk} {A : Option Addr} {m d : Nat} {os : List Or} (h : Gb W0 B7 B9 v7 (.slice (some ⟨b, 0, none⟩) n c) l7 l9 W) (hk : l9[k]? = some x) :
    EK.Own 33 (W.setCell ⟨b, k * 29 + 28, none⟩ (.slice A m d)) B9 (.slice (some ⟨b, 0, none⟩) n c) (l9.set k ⟨x.lg, x.ba, x.pr, A, m, d, os⟩) ∧ Below W0.heap.size W0 (W.setCell ⟨b, k * 29 + 28, none⟩ (.slice A m d)) := by
  have hb := (gown_lt h.o9 (k := b) rfl).1
  have hle := h.le
  have hl9 := h.l9
  exact ⟨gown_put h.o9 hk (i := 28) (by decide) (sk_set x A m d os), h.b0.setCell (by show _ ≤ b; omega) _⟩
end
theorem gsizeOf11 {α : Type} {E : Elt α} {P : Program} {ts te : TypeId} (T : EltT P E ts te) (w : World) : (Go.sizeOf te).run P w = .ok E.N w := by
  obtain ⟨z, by', hi, _, _⟩ := T.info
  obtain ⟨i0, hi0, _, hz1, _⟩ := info_parts hi
  simp [Go.sizeOf, typeInfo, hi0, hz1]
theorem five11 {α : Type} {x : Array α} (h : x.size = 5) : ∃ a b c d e, x = #[a, b, c, d, e] := by
  obtain ⟨l⟩ := x
  match l, h with
  | [a, b, c, d, e], _ => exact ⟨a, b, c, d, e, rfl⟩
theorem fill_or11 (o : Or) (z : Value) (h : z.cells.size = EO.N) : Instr.fill (fun i => some (i * EO.N, EO.N)) ((Array.range (1 * EO.N)).map (z.cells[· % z.cells.size]!)) [(0, .agg (EO.cells o).toArray)] = some (EO.cells o).toArray := by
  obtain ⟨a, b, c, d, e, hz⟩ := five11 (show z.cells.size = 5 from h)
  rw [hz]
  obtain ⟨nu, ac, bu, pr, le⟩ := o
  kernel_rfl
theorem gwp_bs0' {α : Type} {E : Elt α} {P : Program} {ts te : TypeId} (T : EltT P E ts te) {w : World} {o : Oper} {a : Act} {K : Act → World → Prop} {Q : Exit → Act → World → Prop} (ho : o.op = .buildSlice ts 0 #[]) (h : K (a.put o.dst (.slice (some ⟨w.heap.size, 0, none⟩) 0 0)) (w.alloc (.cells #[] te))) : o.wp P a w K Q := by
  unfold Oper.wp execOp
  simp [ho, Instr.buildSlice, run_underlying T.und, Result.andThen, gsizeOf11 T, Instr.fill, newRow]
  have e : ∀ f : Nat → Value, Array.map f (Array.range 0) = #[] := fun f => by rw [show Array.range 0 = #[] from rfl, Array.map_empty]
  rw [e]
  exact h
theorem o0_of11 {B : Nat} {w1 U : World} (h : Below B w1 U) (hB : B ≤ w1.heap.size := by exact Nat.le_refl _) : EO.Own 41 (U.alloc (.cells #[] 41)) B (.slice (some ⟨U.heap.size, 0, none⟩) 0 0) [] := gown_low (gown_new U) (Nat.le_trans hB h.size)
theorem x6_of11 {B : Nat} {w1 U : World} (h : Below B w1 U) (x : Or) : EO.Bx 41 (U.alloc (.cells (EO.cells x).toArray 41)) U.heap.size x := gbx_new U x
end Go.Proofs.Ytcpcnjiphiokjaa
