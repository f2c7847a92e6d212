/- Arguments that are lists of contracts' data, of contracts, of calls, opened; no program's function. -/
import Derived.Test.YtejhnfkljfdejaaQo
import Derived.Test.YtejhnfkljfdejaaKx
import Derived.Test.YtejhnfkljfdejaaKe
import Derived.Test.YtejhnfkljfdejaaKl
import Derived.Deep.Slices
namespace Go.Proofs.Ytejhnfkljfdejaa
open Go.ChangeShapes Go.WideShapes Go.ChangeAt Go.RowKit

theorem cells_ct : Try.prog.cellsOf 45 = 27 := by kernel_rfl
theorem cells_op : Try.prog.cellsOf 35 = 29 := by kernel_rfl
theorem cells_st : Try.prog.cellsOf 43 = 1 := by kernel_rfl
theorem cells_int : Try.prog.cellsOf 3 = 1 := by kernel_rfl
theorem cells_bool : Try.prog.cellsOf 4 = 1 := by kernel_rfl
section
variable {H : Type} {enc : TypeId × Value → H} {W : World} {base : Nat} {spare : Nat → Bool} {held : Bool}
theorem two_last {l : List Value} (h : l.length = 27) : ∃ p a b, l = p ++ [a, b] ∧ p.length = 25 := by
  refine ⟨l.take 25, l[25], l[26], ?_, by simp [h]⟩
  have e1 : l.drop 25 = l[25] :: l.drop 26 := List.drop_eq_getElem_cons (by omega)
  have e2 : l.drop 26 = l[26] :: l.drop 27 := List.drop_eq_getElem_cons (by omega)
  have e3 : l.drop 27 = [] := List.drop_of_length_le (by omega)
  rw [e3] at e2
  rw [e2] at e1
  rw [← e1, List.take_append_drop]
theorem open_ctL {fuel : Nat} {l : List Value} {y : DataW H × List MemPlace} (hl : l.length = 27) (hf : DataW.trod enc Try.prog W base spare held fuel 45 l = some y) : ∃ c : Ct, l = c.cellL ∧ c.ok := by
  obtain ⟨p, a, b, rfl, hp⟩ := two_last hl
  obtain ⟨xs, n, _, hx, _, hlen, hg⟩ := DataW.trod_struct Try.underlying45 hf
  have h3 : xs.length = 3 := hlen
  have g0 : DataW.trod enc Try.prog W base spare held n 33 (((p ++ [a, b]).drop 0).take (Try.prog.cellsOf 33)) = xs[0]? := hg 0 _ rfl
  have g1 : DataW.trod enc Try.prog W base spare held n 43 (((p ++ [a, b]).drop 25).take (Try.prog.cellsOf 43)) = xs[1]? := hg 1 _ rfl
  have g2 : DataW.trod enc Try.prog W base spare held n 2 (((p ++ [a, b]).drop 26).take (Try.prog.cellsOf 2)) = xs[2]? := hg 2 _ rfl
  rw [cells_sp] at g0
  rw [cells_st] at g1
  rw [cells_i64] at g2
  have d25 : (p ++ [a, b]).drop 25 = [a, b] := by rw [← hp]; exact List.drop_left' rfl
  have d26 : (p ++ [a, b]).drop 26 = [b] := by rw [show 26 = 25 + 1 from rfl, ← List.drop_drop, d25]; rfl
  have t25 : ((p ++ [a, b]).drop 0).take 25 = p := by rw [List.drop_zero, ← hp]; exact List.take_left' rfl
  rw [t25] at g0
  rw [d25] at g1
  rw [d26] at g2
  rw [List.getElem?_eq_getElem (by omega)] at g0 g1 g2
  obtain ⟨s, rfl, ok⟩ := open_specL hp g0
  obtain ⟨st, e1, _, hw1⟩ := DataW.trod_int Try.underlying43 g1
  obtain ⟨pr, e2, _, hw2⟩ := DataW.trod_int Try.underlying2 g2
  simp at e1 e2
  subst e1 e2
  exact ⟨⟨s, st, pr⟩, rfl, ok, bounds_u8 hw1, bounds_i64 hw2⟩
theorem four_parts {l : List Value} (h : l.length = 29) : ∃ k p a b c, l = k :: (p ++ [a, b, c]) ∧ p.length = 25 := by
  match l, h with
  | k :: m, h =>
    have hm : m.length = 28 := by simpa using h
    refine ⟨k, m.take 25, m[25], m[26], m[27], ?_, by simp [hm]⟩
    have e1 : m.drop 25 = m[25] :: m.drop 26 := List.drop_eq_getElem_cons (by omega)
    have e2 : m.drop 26 = m[26] :: m.drop 27 := List.drop_eq_getElem_cons (by omega)
    have e3 : m.drop 27 = m[27] :: m.drop 28 := List.drop_eq_getElem_cons (by omega)
    have e4 : m.drop 28 = [] := List.drop_of_length_le (by omega)
    rw [e4] at e3
    rw [e3] at e2
    rw [e2] at e1
    rw [← e1, List.take_append_drop]
theorem open_opL {fuel : Nat} {l : List Value} {y : DataW H × List MemPlace} (hl : l.length = 29) (hf : DataW.trod enc Try.prog W base spare held fuel 35 l = some y) : ∃ x : OpC, l = x.cellL ∧ x.ok := by
  obtain ⟨k, p, a, b, c, rfl, hp⟩ := four_parts hl
  obtain ⟨xs, n, _, hx, _, hlen, hg⟩ := DataW.trod_struct Try.underlying35 hf
  have h3 : xs.length = 5 := hlen
  have g0 : DataW.trod enc Try.prog W base spare held n 3 (((k :: (p ++ [a, b, c])).drop 0).take (Try.prog.cellsOf 3)) = xs[0]? := hg 0 _ rfl
  have g1 : DataW.trod enc Try.prog W base spare held n 33 (((k :: (p ++ [a, b, c])).drop 1).take (Try.prog.cellsOf 33)) = xs[1]? := hg 1 _ rfl
  have g2 : DataW.trod enc Try.prog W base spare held n 26 (((k :: (p ++ [a, b, c])).drop 26).take (Try.prog.cellsOf 26)) = xs[2]? := hg 2 _ rfl
  have g3 : DataW.trod enc Try.prog W base spare held n 4 (((k :: (p ++ [a, b, c])).drop 27).take (Try.prog.cellsOf 4)) = xs[3]? := hg 3 _ rfl
  have g4 : DataW.trod enc Try.prog W base spare held n 2 (((k :: (p ++ [a, b, c])).drop 28).take (Try.prog.cellsOf 2)) = xs[4]? := hg 4 _ rfl
  rw [cells_int] at g0
  rw [cells_sp] at g1
  rw [cells_u32] at g2
  rw [cells_bool] at g3
  rw [cells_i64] at g4
  have d1 : (k :: (p ++ [a, b, c])).drop 1 = p ++ [a, b, c] := rfl
  have d26 : (k :: (p ++ [a, b, c])).drop 26 = [a, b, c] := by rw [show 26 = 1 + 25 from rfl, ← List.drop_drop, d1, ← hp]; exact List.drop_left' rfl
  have d27 : (k :: (p ++ [a, b, c])).drop 27 = [b, c] := by rw [show 27 = 26 + 1 from rfl, ← List.drop_drop, d26]; rfl
  have d28 : (k :: (p ++ [a, b, c])).drop 28 = [c] := by rw [show 28 = 27 + 1 from rfl, ← List.drop_drop, d27]; rfl
  have t25 : ((k :: (p ++ [a, b, c])).drop 1).take 25 = p := by rw [d1, ← hp]; exact List.take_left' rfl
  rw [t25] at g1
  rw [d26] at g2
  rw [d27] at g3
  rw [d28] at g4
  rw [List.getElem?_eq_getElem (by omega)] at g0 g1 g2 g3 g4
  obtain ⟨kd, e0, _, hw0⟩ := DataW.trod_int Try.underlying3 g0
  obtain ⟨s, rfl, ok⟩ := open_specL hp g1
  obtain ⟨nu, e2, _, hw2⟩ := DataW.trod_int Try.underlying26 g2
  obtain ⟨on, e3, _⟩ := DataW.trod_bool Try.underlying4 g3
  obtain ⟨pr, e4, _, hw4⟩ := DataW.trod_int Try.underlying2 g4
  simp at e0 e2 e3 e4
  subst e0 e2 e3 e4
  exact ⟨⟨kd, s, nu, on, pr⟩, rfl, bounds_i64 hw0, ok, bounds_u32 hw2, bounds_i64 hw4⟩
/-- A list of structs, opened at every place. -/
theorem open_rows {α : Type} (cells : α → List Value) (good : α → Prop) {t e : TypeId} {N : Nat} (hN : Try.prog.cellsOf e = N) (hpos : 0 < N) (hcl : ∀ x, good x → (cells x).length = N) (ht : Try.prog.underlying t = some (.slice e))
    (one : ∀ (fuel : Nat) (l : List Value) (y : DataW H × List MemPlace), l.length = N → DataW.trod enc Try.prog W base spare held fuel e l = some y → ∃ x, l = cells x ∧ good x)
    {fuel : Nat} {cs : List Value} {x : DataW H × List MemPlace} (h : DataW.trod enc Try.prog W base spare held fuel t cs = some x) :
    ∃ (A : Option Addr) (len cap : Nat) (os : List α), cs = [.slice A len cap] ∧ os.length = len ∧ (∀ x, x ∈ os → good x) ∧ (A = none → len = 0 ∧ cap = 0) ∧ len ≤ cap ∧ cap ≤ maxLen ∧
      (0 < len → ∃ b o, A = some ⟨b, o, none⟩ ∧ b < W.heap.size ∧ ∀ (k : Nat) (x : α), os[k]? = some x → W.rangeAt b (o + k * N) (cells x)) := by
  rcases Deep.open_slice ht h with ⟨rfl, _⟩ | ⟨a, len, cap, m, n, D, Pl, rfl, hb, hl, hm, hmm, _, hx⟩
  · exact ⟨none, 0, 0, [], rfl, rfl, (fun x hx => by cases hx), (fun _ => ⟨rfl, rfl⟩), Nat.le_refl _, Nat.zero_le _, fun h => absurd h (Nat.lt_irrefl 0)⟩
  · have hlm : len ≤ m := by rw [hmm]; split <;> omega
    have each : ∀ i : Nat, i < len → ∃ y : α, good y ∧ ∀ j, j < N → W.cell? ((a.add (i * N)).add j) = (cells y)[j]? := fun i hi => by
      obtain ⟨cs', h1, h2⟩ := hx i (by omega)
      rw [hN] at h1
      obtain ⟨_, hlen, hc⟩ := World.cells?_some h1
      obtain ⟨y, rfl, hy⟩ := one _ _ _ hlen h2
      exact ⟨y, hy, hc⟩
    refine ⟨some a, len, cap, List.ofFn fun i : Fin len => (each i.1 i.2).choose, rfl, by simp, fun y hy => ?_, fun h => (by cases h), hl, hm, fun hp => ?_⟩
    · obtain ⟨i, rfl⟩ := List.mem_ofFn.1 hy
      exact (each i.1 i.2).choose_spec.1
    · obtain ⟨b, off, spot⟩ := a
      have h0 := (each 0 hp).choose_spec
      have c0 := h0.2 0 hpos
      have hl0 := hcl _ h0.1
      rw [List.getElem?_eq_getElem (by omega)] at c0
      have hspot : spot = none := by simpa [Addr.add] using World.cell?_spot c0
      subst hspot
      have plain : ∀ i j, ((⟨b, off, none⟩ : Addr).add i).add j = ⟨b, off + i + j, none⟩ := fun i j => (congrArg (fun x : Addr => x.add j) (Go.WideShapes.add_plain b off i)).trans (Go.WideShapes.add_plain b (off + i) j)
      refine ⟨b, off, rfl, World.block_lt_of_cell? W _ ((congrArg W.cell? (plain (0 * N) 0)).symm.trans c0), fun k y hk j v hj => ?_⟩
      obtain ⟨hkl, hke⟩ := List.getElem?_eq_some_iff.1 hk
      have hkl' : k < len := by simpa using hkl
      have hy : y = (each k hkl').choose := by rw [← hke]; simp
      have hjl := (List.getElem?_eq_some_iff.1 hj).1
      have hs := (each k hkl').choose_spec
      rw [hy] at hj hjl
      rw [hcl _ hs.1] at hjl
      exact (congrArg W.cell? (plain (k * N) j)).symm.trans ((hs.2 j hjl).trans hj)
theorem open_ops {fuel : Nat} {cs : List Value} {x : DataW H × List MemPlace} (h : DataW.trod enc Try.prog W base spare held fuel 22 cs = some x) :
    ∃ (A : Option Addr) (len cap : Nat) (os : List OpC), cs = [.slice A len cap] ∧ RdO W A len os ∧ (∀ x, x ∈ os → x.ok) ∧ len ≤ maxLen := by
  obtain ⟨A, len, cap, os, e, h1, h2, _, h4, h5, h6⟩ := open_rows OpC.cellL OpC.ok cells_op (by decide) (fun x hx => OpC.lenL hx.sp.len) Try.underlying22 (fun f l y hl hf => open_opL hl hf) h
  exact ⟨A, len, cap, os, e, ⟨h1, h6⟩, h2, by omega⟩
theorem open_cts {fuel : Nat} {cs : List Value} {x : DataW H × List MemPlace} (h : DataW.trod enc Try.prog W base spare held fuel 27 cs = some x) :
    ∃ (A : Option Addr) (len cap : Nat) (os : List Ct), cs = [.slice A len cap] ∧ RdK W A len os ∧ (∀ x, x ∈ os → x.ok) ∧ len ≤ maxLen ∧ (A = none → cap = 0) := by
  obtain ⟨A, len, cap, os, e, h1, h2, h3, h4, h5, h6⟩ := open_rows Ct.cellL Ct.ok cells_ct (by decide) (fun x hx => Ct.lenL hx.sp.len) Try.underlying27 (fun f l y hl hf => open_ctL hl hf) h
  exact ⟨A, len, cap, os, e, ⟨h1, fun e => (h3 e).1, h6⟩, h2, by omega, fun e => (h3 e).2⟩
theorem open_specs {fuel : Nat} {cs : List Value} {x : DataW H × List MemPlace} (h : DataW.trod enc Try.prog W base spare held fuel 63 cs = some x) :
    ∃ (A : Option Addr) (len cap : Nat) (os : List Sp), cs = [.slice A len cap] ∧ RdS W A len os ∧ (∀ x, x ∈ os → x.ok) ∧ len ≤ maxLen := by
  obtain ⟨A, len, cap, os, e, h1, h2, _, h4, h5, h6⟩ := open_rows Sp.cellL Sp.ok cells_sp (by decide) (fun x hx => Sp.lenL hx.len) Try.underlying63 (fun f l y hl hf => open_specL hl hf) h
  exact ⟨A, len, cap, os, e, ⟨h1, h6⟩, h2, by omega⟩
theorem one_of {l : List Value} (h : l.length = 1) : ∃ v, l = [v] := by
  match l, h with
  | [v], _ => exact ⟨v, rfl⟩
theorem open_us {fuel : Nat} {cs : List Value} {x : DataW H × List MemPlace} (h : DataW.trod enc Try.prog W base spare held fuel 64 cs = some x) :
    ∃ (A : Option Addr) (len cap : Nat) (os : List Int), cs = [.slice A len cap] ∧ RdU W A len os ∧ (∀ x, x ∈ os → 0 ≤ x ∧ x ≤ 4294967295) ∧ len ≤ maxLen := by
  obtain ⟨A, len, cap, os, e, h1, h2, _, h4, h5, h6⟩ := open_rows (fun x : Int => [Value.int .u32 x]) (fun x => 0 ≤ x ∧ x ≤ 4294967295) cells_u32 (by decide) (fun _ _ => rfl) Try.underlying64 (fun f l y hl hf => by
    obtain ⟨v, rfl⟩ := one_of hl
    obtain ⟨n, e, _, hw⟩ := DataW.trod_int Try.underlying26 hf
    exact ⟨n, e, bounds_u32 hw⟩) h
  exact ⟨A, len, cap, os, e, ⟨h1, h6⟩, h2, by omega⟩
theorem open_bs {fuel : Nat} {cs : List Value} {x : DataW H × List MemPlace} (h : DataW.trod enc Try.prog W base spare held fuel 65 cs = some x) :
    ∃ (A : Option Addr) (len cap : Nat) (os : List Bool), cs = [.slice A len cap] ∧ RdT W A len os ∧ (∀ x, x ∈ os → True) ∧ len ≤ maxLen := by
  obtain ⟨A, len, cap, os, e, h1, h2, _, h4, h5, h6⟩ := open_rows (fun x : Bool => [Value.bool x]) (fun _ => True) cells_bool (by decide) (fun _ _ => rfl) Try.underlying65 (fun f l y hl hf => by
    obtain ⟨v, rfl⟩ := one_of hl
    obtain ⟨n, e, _⟩ := DataW.trod_bool Try.underlying4 hf
    exact ⟨n, e, trivial⟩) h
  exact ⟨A, len, cap, os, e, ⟨h1, h6⟩, h2, by omega⟩
end
end Go.Proofs.Ytejhnfkljfdejaa
