/- Calls on a ledger as the statements' scripts have them; arguments opened. -/
import Derived.Test.YthnmpnepgagmmaaLc
import Derived.Test.YthnmpnepgagmmaaRo
namespace Go.Proofs.Ythnmpnepgagmmaa
open Go.ChangeShapes Go.WideShapes Go.ChangeAt Go.RowKit
set_option linter.unusedVariables false
set_option maxRecDepth 100000

/-- A call. -/
structure OpL where
  kd : Int
  a : Int
  b : Int
  c : Int
  n : Int
  m : Int
  x : Ac
def I9 (n : Int) : Prop := -9223372036854775808 ≤ n ∧ n ≤ 9223372036854775807
structure OpL.ok (y : OpL) : Prop where
  kd : I9 y.kd
  a : U32' y.a
  b : U32' y.b
  c : U32' y.c
  n : I9 y.n
  m : I9 y.m
  x : y.x.ok
def OpL.cells (y : OpL) : List Value := [.int .i64 y.kd, .int .u32 y.a, .int .u32 y.b, .int .u32 y.c, .int .i64 y.n, .int .i64 y.m, .int .u32 y.x.nu, .int .i64 y.x.ca, .bool y.x.ki, .bool y.x.de]
def EOp9 : Elt OpL := ⟨OpL.cells, 10, by decide, fun _ => rfl, fun x u hu => by
  simp only [OpL.cells, List.mem_cons, List.not_mem_nil, or_false] at hu
  rcases hu with rfl | rfl | rfl | rfl | rfl | rfl | rfl | rfl | rfl | rfl <;> rfl⟩
def zeroOp9 : OpL := ⟨0, 0, 0, 0, 0, 0, zeroAc⟩
theorem TOp9 : EltT Try.prog EOp9 22 35 := ⟨Try.underlying22, ⟨_, Try.underlying35⟩, ⟨.agg (EOp9.cells zeroOp9).toArray, 64, by kernel_rfl, rfl, by decide⟩⟩
theorem zero_op9 (w : World) : (zeroValue 35).run Try.prog w = .ok (.agg (EOp9.cells zeroOp9).toArray) w := by kernel_rfl
theorem cells9_ac : Try.prog.cellsOf 33 = 4 := by kernel_rfl
theorem cells9_op : Try.prog.cellsOf 35 = 10 := by kernel_rfl
section
variable {H : Type} {enc : TypeId × Value → H} {W : World} {base : Nat} {spare : Nat → Bool} {held : Bool}
theorem open9_i64 {n : Nat} {c : Value} {y : Option (DataW H × List MemPlace)} (hy : y.isSome = true) (h : DataW.trod enc Try.prog W base spare held n 2 [c] = y) : ∃ a : Int, c = .int .i64 a ∧ I9 a := by
  obtain ⟨z, rfl⟩ := Option.isSome_iff_exists.1 hy
  obtain ⟨a, e, _, hw⟩ := DataW.trod_int Try.underlying2 h
  simp only [List.cons.injEq, and_true] at e
  exact ⟨a, e, bounds_i64 hw⟩
theorem open9_int {n : Nat} {c : Value} {y : Option (DataW H × List MemPlace)} (hy : y.isSome = true) (h : DataW.trod enc Try.prog W base spare held n 3 [c] = y) : ∃ a : Int, c = .int .i64 a ∧ I9 a := by
  obtain ⟨z, rfl⟩ := Option.isSome_iff_exists.1 hy
  obtain ⟨a, e, _, hw⟩ := DataW.trod_int Try.underlying3 h
  simp only [List.cons.injEq, and_true] at e
  exact ⟨a, e, bounds_i64 hw⟩
theorem open9_u32 {n : Nat} {c : Value} {y : Option (DataW H × List MemPlace)} (hy : y.isSome = true) (h : DataW.trod enc Try.prog W base spare held n 31 [c] = y) : ∃ a : Int, c = .int .u32 a ∧ U32' a := by
  obtain ⟨z, rfl⟩ := Option.isSome_iff_exists.1 hy
  obtain ⟨a, e, _, hw⟩ := DataW.trod_int Try.underlying31 h
  simp only [List.cons.injEq, and_true] at e
  exact ⟨a, e, bounds_u32 hw⟩
theorem open9_bool {n : Nat} {c : Value} {y : Option (DataW H × List MemPlace)} (hy : y.isSome = true) (h : DataW.trod enc Try.prog W base spare held n 4 [c] = y) : ∃ a : Bool, c = .bool a := by
  obtain ⟨z, rfl⟩ := Option.isSome_iff_exists.1 hy
  obtain ⟨a, e, _⟩ := DataW.trod_bool Try.underlying4 h
  simp only [List.cons.injEq, and_true] at e
  exact ⟨a, e⟩
theorem open_acL9 {fuel : Nat} {l : List Value} {y : DataW H × List MemPlace} (hl : l.length = 4) (hf : DataW.trod enc Try.prog W base spare held fuel 33 l = some y) : ∃ o : Ac, l = EA.cells o ∧ o.ok := by
  match l, hl with
  | [c0, c1, c2, c3], _ =>
    obtain ⟨xs, n, _, hx, _, hlen, hg⟩ := DataW.trod_struct Try.underlying33 hf
    have iss : ∀ i, i < 4 → (xs[i]?).isSome = true := fun i hi => by
      have h5 : xs.length = 4 := hlen
      rw [List.getElem?_eq_getElem (by omega)]; rfl
    obtain ⟨nu, rfl, k0⟩ := open9_u32 (iss 0 (by omega)) (hg 0 _ rfl)
    obtain ⟨ca, rfl, k1⟩ := open9_i64 (iss 1 (by omega)) (hg 1 _ rfl)
    obtain ⟨ki, rfl⟩ := open9_bool (iss 2 (by omega)) (hg 2 _ rfl)
    obtain ⟨de, rfl⟩ := open9_bool (iss 3 (by omega)) (hg 3 _ rfl)
    exact ⟨⟨nu, ca, ki, de⟩, rfl, k0, k1⟩
theorem open_opL9 {fuel : Nat} {l : List Value} {y : DataW H × List MemPlace} (hl : l.length = 10) (hf : DataW.trod enc Try.prog W base spare held fuel 35 l = some y) : ∃ x : OpL, l = EOp9.cells x ∧ x.ok := by
  match l, hl with
  | [c0, c1, c2, c3, c4, c5, c6, c7, c8, c9], _ =>
    obtain ⟨xs, n, _, hx, _, hlen, hg⟩ := DataW.trod_struct Try.underlying35 hf
    have h3 : xs.length = 7 := hlen
    have iss : ∀ i, i < 7 → (xs[i]?).isSome = true := fun i hi => by
      rw [List.getElem?_eq_getElem (by omega)]; rfl
    obtain ⟨kd, rfl, k0⟩ := open9_int (iss 0 (by omega)) (hg 0 _ rfl)
    obtain ⟨a, rfl, k1⟩ := open9_u32 (iss 1 (by omega)) (hg 1 _ rfl)
    obtain ⟨b, rfl, k2⟩ := open9_u32 (iss 2 (by omega)) (hg 2 _ rfl)
    obtain ⟨c, rfl, k3⟩ := open9_u32 (iss 3 (by omega)) (hg 3 _ rfl)
    obtain ⟨q, rfl, k4⟩ := open9_i64 (iss 4 (by omega)) (hg 4 _ rfl)
    obtain ⟨m, rfl, k5⟩ := open9_i64 (iss 5 (by omega)) (hg 5 _ rfl)
    have g1 : DataW.trod enc Try.prog W base spare held n 33 (([.int .i64 kd, .int .u32 a, .int .u32 b, .int .u32 c, .int .i64 q, .int .i64 m, c6, c7, c8, c9].drop 6).take (Try.prog.cellsOf 33)) = xs[6]? := hg 6 _ rfl
    rw [cells9_ac, List.getElem?_eq_getElem (by omega)] at g1
    obtain ⟨o, e, k6⟩ := open_acL9 rfl g1
    have e' : [c6, c7, c8, c9] = EA.cells o := e
    simp only [EA, Ac.cells, List.cons.injEq, and_true] at e'
    obtain ⟨rfl, rfl, rfl, rfl⟩ := e'
    exact ⟨⟨kd, a, b, c, q, m, o⟩, rfl, k0, k1, k2, k3, k4, k5, k6⟩
theorem rd_of9 {α : Type} {E : Elt α} {A : Option Addr} {len : Nat} {os : List α} (h1 : os.length = len) (h3 : A = none → len = 0) (h6 : 0 < len → ∃ b o, A = some ⟨b, o, none⟩ ∧ b < W.heap.size ∧ ∀ (k : Nat) (x : α), os[k]? = some x → W.rangeAt b (o + k * E.N) (E.cells x)) : E.Rd W A len os := by
  refine ⟨h1, h3, fun hm a e => ?_⟩
  obtain ⟨b, o, e2, _, hx⟩ := h6 hm
  rw [e] at e2
  cases e2
  refine ⟨rfl, fun j u hj => ?_⟩
  have hl := (List.getElem?_eq_some_iff.1 hj).1
  rw [gflat_len] at hl
  have hN := E.pos
  have hk : j / E.N < os.length := Nat.div_lt_of_lt_mul (by rw [Nat.mul_comm]; exact hl)
  obtain ⟨x, hx'⟩ : ∃ x, os[j / E.N]? = some x := ⟨os[j / E.N], List.getElem?_eq_getElem hk⟩
  have hi := Nat.mod_lt j hN
  have ej : j / E.N * E.N + j % E.N = j := by rw [Nat.mul_comm]; exact Nat.div_add_mod j E.N
  have hf := gflat_at os (j / E.N) x hx' (j % E.N) hi
  rw [ej, hj] at hf
  have := hx (j / E.N) x hx' (j % E.N) u hf.symm
  rw [Nat.add_assoc, ej] at this
  exact this
theorem open_ops9 {fuel : Nat} {cs : List Value} {x : DataW H × List MemPlace} (h : DataW.trod enc Try.prog W base spare held fuel 22 cs = some x) :
    ∃ (A : Option Addr) (len cap : Nat) (os : List OpL), cs = [.slice A len cap] ∧ EOp9.Rd W A len os ∧ (∀ x, x ∈ os → x.ok) ∧ len ≤ maxLen ∧ (A = none → cap = 0) ∧ len ≤ cap ∧ cap ≤ maxLen := by
  obtain ⟨A, len, cap, os, e, h1, h2, h3, h4, h5, h6⟩ := open_rows EOp9.cells OpL.ok cells9_op (by decide) (fun x hx => EOp9.len x) Try.underlying22 (fun f l y hl hf => open_opL9 hl hf) h
  exact ⟨A, len, cap, os, e, rd_of9 h1 (fun e => (h3 e).1) h6, h2, by omega, fun e => (h3 e).2, h4, h5⟩
end
end Go.Proofs.Ythnmpnepgagmmaa
