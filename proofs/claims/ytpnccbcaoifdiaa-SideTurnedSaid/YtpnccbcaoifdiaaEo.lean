/- Calls on a side as the statements' scripts have them; arguments opened: orders, lists of orders, of calls; no program's function. -/
import Derived.Test.YtpnccbcaoifdiaaSb
import Derived.Test.YtpnccbcaoifdiaaRo
namespace Go.Proofs.Ytpnccbcaoifdiaa
open Go.ChangeShapes Go.WideShapes Go.ChangeAt Go.RowKit
set_option linter.unusedVariables false

/-- A call. -/
structure OpS where
  kd : Int
  o : Or
  n : Int
structure OpS.ok (x : OpS) : Prop where
  kd : I64' x.kd
  o : x.o.ok
  n : I64' x.n
def OpS.cells (x : OpS) : List Value := [.int .i64 x.kd, .int .u64 x.o.nu, .int .u32 x.o.ac, .bool x.o.bu, .int .i64 x.o.pr, .int .i64 x.o.le, .int .i64 x.n]
def EOp : Elt OpS := ⟨OpS.cells, 7, by decide, fun _ => rfl, fun x u hu => by
  simp only [OpS.cells, List.mem_cons, List.not_mem_nil, or_false] at hu
  rcases hu with rfl | rfl | rfl | rfl | rfl | rfl | rfl <;> rfl⟩
def zeroOp : OpS := ⟨0, zeroOr, 0⟩
theorem TOp : EltT Try.prog EOp 22 35 := ⟨Try.underlying22, ⟨_, Try.underlying35⟩, ⟨.agg (EOp.cells zeroOp).toArray, 48, by kernel_rfl, rfl, by decide⟩⟩
theorem zero_op6 (w : World) : (zeroValue 35).run Try.prog w = .ok (.agg (EOp.cells zeroOp).toArray) w := by kernel_rfl
/-- The order in a call. -/
theorem op_or {w : World} {b o : Nat} {x : OpS} (h : w.rangeAt b o (EOp.cells x)) : w.rangeAt b (o + 1) (EO.cells x.o) := fun j u hj => by
  have hl := (List.getElem?_eq_some_iff.1 hj).1
  rw [EO.len] at hl
  have h5 : j < 5 := hl
  rw [Nat.add_assoc]
  refine h (1 + j) u ?_
  rw [← hj, Nat.add_comm]
  match j, h5 with
  | 0, _ => rfl
  | 1, _ => rfl
  | 2, _ => rfl
  | 3, _ => rfl
  | 4, _ => rfl
/-- A call laid in a new block. -/
theorem put_op (w : World) (x : OpS) : ∃ V, (w.alloc (.cells (EOp.cells zeroOp).toArray 35)).setRow w.heap.size (EOp.cells x).toArray = V ∧ Below w.heap.size w V ∧ EOp.Bx 35 V w.heap.size x ∧ EOp.Bx 35 (w.alloc (.cells (EOp.cells zeroOp).toArray 35)) w.heap.size zeroOp ∧ V.heap.size = w.heap.size + 1 :=
  ⟨_, rfl, below_row0 (below_new w _) (Nat.le_refl _), gbx_set (gbx_new w zeroOp), gbx_new w zeroOp, by
    show (Array.modify _ _ _).size = _
    rw [Array.size_modify]; simp⟩
theorem cells6_or : Try.prog.cellsOf 33 = 5 := by kernel_rfl
theorem cells6_op : Try.prog.cellsOf 35 = 7 := by kernel_rfl
section
variable {H : Type} {enc : TypeId × Value → H} {W : World} {base : Nat} {spare : Nat → Bool} {held : Bool}
theorem open6_i64 {n : Nat} {c : Value} {y : Option (DataW H × List MemPlace)} (hy : y.isSome = true) (h : DataW.trod enc Try.prog W base spare held n 2 [c] = y) : ∃ a : Int, c = .int .i64 a ∧ I64' a := by
  obtain ⟨z, rfl⟩ := Option.isSome_iff_exists.1 hy
  obtain ⟨a, e, _, hw⟩ := DataW.trod_int Try.underlying2 h
  simp only [List.cons.injEq, and_true] at e
  exact ⟨a, e, bounds_i64 hw⟩
theorem open6_int {n : Nat} {c : Value} {y : Option (DataW H × List MemPlace)} (hy : y.isSome = true) (h : DataW.trod enc Try.prog W base spare held n 3 [c] = y) : ∃ a : Int, c = .int .i64 a ∧ I64' a := by
  obtain ⟨z, rfl⟩ := Option.isSome_iff_exists.1 hy
  obtain ⟨a, e, _, hw⟩ := DataW.trod_int Try.underlying3 h
  simp only [List.cons.injEq, and_true] at e
  exact ⟨a, e, bounds_i64 hw⟩
theorem open6_u32 {n : Nat} {c : Value} {y : Option (DataW H × List MemPlace)} (hy : y.isSome = true) (h : DataW.trod enc Try.prog W base spare held n 31 [c] = y) : ∃ a : Int, c = .int .u32 a ∧ 0 ≤ a ∧ a ≤ 4294967295 := by
  obtain ⟨z, rfl⟩ := Option.isSome_iff_exists.1 hy
  obtain ⟨a, e, _, hw⟩ := DataW.trod_int Try.underlying31 h
  simp only [List.cons.injEq, and_true] at e
  exact ⟨a, e, bounds_u32 hw⟩
theorem open6_u64 {n : Nat} {c : Value} {y : Option (DataW H × List MemPlace)} (hy : y.isSome = true) (h : DataW.trod enc Try.prog W base spare held n 30 [c] = y) : ∃ a : Int, c = .int .u64 a ∧ 0 ≤ a ∧ a ≤ 18446744073709551615 := by
  obtain ⟨z, rfl⟩ := Option.isSome_iff_exists.1 hy
  obtain ⟨a, e, _, hw⟩ := DataW.trod_int Try.underlying30 h
  simp only [List.cons.injEq, and_true] at e
  exact ⟨a, e, bounds_u64 hw⟩
theorem open6_bool {n : Nat} {c : Value} {y : Option (DataW H × List MemPlace)} (hy : y.isSome = true) (h : DataW.trod enc Try.prog W base spare held n 4 [c] = y) : ∃ a : Bool, c = .bool a := by
  obtain ⟨z, rfl⟩ := Option.isSome_iff_exists.1 hy
  obtain ⟨a, e, _⟩ := DataW.trod_bool Try.underlying4 h
  simp only [List.cons.injEq, and_true] at e
  exact ⟨a, e⟩
theorem open_orL {fuel : Nat} {l : List Value} {y : DataW H × List MemPlace} (hl : l.length = 5) (hf : DataW.trod enc Try.prog W base spare held fuel 33 l = some y) : ∃ o : Or, l = EO.cells o ∧ o.ok := by
  match l, hl with
  | [c0, c1, c2, c3, c4], _ =>
    obtain ⟨xs, n, _, hx, _, hlen, hg⟩ := DataW.trod_struct Try.underlying33 hf
    have iss : ∀ i, i < 5 → (xs[i]?).isSome = true := fun i hi => by
      have h5 : xs.length = 5 := hlen
      rw [List.getElem?_eq_getElem (by omega)]; rfl
    obtain ⟨nu, rfl, k0⟩ := open6_u64 (iss 0 (by omega)) (hg 0 _ rfl)
    obtain ⟨ac, rfl, k1⟩ := open6_u32 (iss 1 (by omega)) (hg 1 _ rfl)
    obtain ⟨bu, rfl⟩ := open6_bool (iss 2 (by omega)) (hg 2 _ rfl)
    obtain ⟨pr, rfl, k3⟩ := open6_i64 (iss 3 (by omega)) (hg 3 _ rfl)
    obtain ⟨le, rfl, k4⟩ := open6_i64 (iss 4 (by omega)) (hg 4 _ rfl)
    exact ⟨⟨nu, ac, bu, pr, le⟩, rfl, k0, k1, k3, k4⟩
theorem open_opL6 {fuel : Nat} {l : List Value} {y : DataW H × List MemPlace} (hl : l.length = 7) (hf : DataW.trod enc Try.prog W base spare held fuel 35 l = some y) : ∃ x : OpS, l = EOp.cells x ∧ x.ok := by
  match l, hl with
  | [c0, c1, c2, c3, c4, c5, c6], _ =>
    obtain ⟨xs, n, _, hx, _, hlen, hg⟩ := DataW.trod_struct Try.underlying35 hf
    have h3 : xs.length = 3 := hlen
    have iss : ∀ i, i < 3 → (xs[i]?).isSome = true := fun i hi => by
      rw [List.getElem?_eq_getElem (by omega)]; rfl
    obtain ⟨kd, rfl, k0⟩ := open6_int (iss 0 (by omega)) (hg 0 _ rfl)
    obtain ⟨m, rfl, k2⟩ := open6_i64 (iss 2 (by omega)) (hg 2 _ rfl)
    have g1 : DataW.trod enc Try.prog W base spare held n 33 (([.int .i64 kd, c1, c2, c3, c4, c5, .int .i64 m].drop 1).take (Try.prog.cellsOf 33)) = xs[1]? := hg 1 _ rfl
    rw [cells6_or, List.getElem?_eq_getElem (by omega)] at g1
    obtain ⟨o, e, k1⟩ := open_orL rfl g1
    have e' : [c1, c2, c3, c4, c5] = EO.cells o := e
    simp only [EO, Or.cells, List.cons.injEq, and_true] at e'
    obtain ⟨rfl, rfl, rfl, rfl, rfl⟩ := e'
    exact ⟨⟨kd, o, m⟩, rfl, k0, k1, k2⟩
theorem open_or {r : Reach} {b0 : Nat} {v : Value} {d : DataW H} {p : List MemPlace} (hv : Value.okWide Try.prog W r b0 33 v) (h : DataW.Trod enc Try.prog W base spare held 33 v d p) : ∃ o : Or, v = .agg (EO.cells o).toArray ∧ o.ok := by
  obtain ⟨cs, rfl, hsz⟩ := okWide_struct Try.underlying33 hv
  obtain ⟨l⟩ := cs
  obtain ⟨fuel, hf⟩ := h
  obtain ⟨o, rfl, ok⟩ := open_orL (hsz.trans cells6_or) hf
  exact ⟨o, rfl, ok⟩
theorem rd_of {α : Type} {E : Elt α} {A : Option Addr} {len : Nat} {os : List α} (h1 : os.length = len) (h3 : A = none → len = 0) (h6 : 0 < len → ∃ b o, A = some ⟨b, o, none⟩ ∧ b < W.heap.size ∧ ∀ (k : Nat) (x : α), os[k]? = some x → W.rangeAt b (o + k * E.N) (E.cells x)) : E.Rd W A len os := by
  refine ⟨h1, h3, fun hm a e => ?_⟩
  obtain ⟨b, o, e2, _, hx⟩ := h6 hm
  rw [e] at e2
  cases e2
  refine ⟨rfl, fun j u hj => ?_⟩
  have hl := (List.getElem?_eq_some_iff.1 hj).1
  rw [gflat_len] at hl
  have hN := E.pos
  have hk : j / E.N < os.length := Nat.div_lt_of_lt_mul (by rw [Nat.mul_comm]; exact hl)
  obtain ⟨x, hx'⟩ : ∃ x, os[j / E.N]? = some x := ⟨os[j / E.N], List.getElem?_eq_getElem hk⟩
  have hi := Nat.mod_lt j hN
  have ej : j / E.N * E.N + j % E.N = j := by rw [Nat.mul_comm]; exact Nat.div_add_mod j E.N
  have hf := gflat_at os (j / E.N) x hx' (j % E.N) hi
  rw [ej, hj] at hf
  have := hx (j / E.N) x hx' (j % E.N) u hf.symm
  rw [Nat.add_assoc, ej] at this
  exact this
theorem open_ops6 {fuel : Nat} {cs : List Value} {x : DataW H × List MemPlace} (h : DataW.trod enc Try.prog W base spare held fuel 22 cs = some x) :
    ∃ (A : Option Addr) (len cap : Nat) (os : List OpS), cs = [.slice A len cap] ∧ EOp.Rd W A len os ∧ (∀ x, x ∈ os → x.ok) ∧ len ≤ maxLen := by
  obtain ⟨A, len, cap, os, e, h1, h2, h3, h4, h5, h6⟩ := open_rows EOp.cells OpS.ok cells6_op (by decide) (fun x hx => EOp.len x) Try.underlying22 (fun f l y hl hf => open_opL6 hl hf) h
  exact ⟨A, len, cap, os, e, rd_of h1 (fun e => (h3 e).1) h6, h2, by omega⟩
theorem open_ors {fuel : Nat} {cs : List Value} {x : DataW H × List MemPlace} (h : DataW.trod enc Try.prog W base spare held fuel 26 cs = some x) :
    ∃ (A : Option Addr) (len cap : Nat) (os : List Or), cs = [.slice A len cap] ∧ EO.Rd W A len os ∧ (∀ x, x ∈ os → x.ok) ∧ len ≤ maxLen := by
  obtain ⟨A, len, cap, os, e, h1, h2, h3, h4, h5, h6⟩ := open_rows EO.cells Or.ok cells6_or (by decide) (fun x hx => EO.len x) Try.underlying26 (fun f l y hl hf => open_orL hl hf) h
  exact ⟨A, len, cap, os, e, rd_of h1 (fun e => (h3 e).1) h6, h2, by omega⟩
end
end Go.Proofs.Ytpnccbcaoifdiaa
