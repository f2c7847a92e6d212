/- Arguments opened: an order, a list of orders; no program's function. -/
import Derived.Test.YtcpcnjiphiokjaaSb
import Derived.Test.YtcpcnjiphiokjaaRo
namespace Go.Proofs.Ytcpcnjiphiokjaa
open Go.ChangeShapes Go.WideShapes Go.ChangeAt Go.RowKit
set_option linter.unusedVariables false
set_option maxRecDepth 100000

theorem cells8_or : Try.prog.cellsOf 41 = 5 := by kernel_rfl
section
variable {H : Type} {enc : TypeId × Value → H} {W : World} {base : Nat} {spare : Nat → Bool} {held : Bool}
theorem open8_i64 {n : Nat} {c : Value} {y : Option (DataW H × List MemPlace)} (hy : y.isSome = true) (h : DataW.trod enc Try.prog W base spare held n 2 [c] = y) : ∃ a : Int, c = .int .i64 a ∧ I64' a := by
  obtain ⟨z, rfl⟩ := Option.isSome_iff_exists.1 hy
  obtain ⟨a, e, _, hw⟩ := DataW.trod_int Try.underlying2 h
  simp only [List.cons.injEq, and_true] at e
  exact ⟨a, e, bounds_i64 hw⟩
theorem open8_int {n : Nat} {c : Value} {y : Option (DataW H × List MemPlace)} (hy : y.isSome = true) (h : DataW.trod enc Try.prog W base spare held n 3 [c] = y) : ∃ a : Int, c = .int .i64 a ∧ I64' a := by
  obtain ⟨z, rfl⟩ := Option.isSome_iff_exists.1 hy
  obtain ⟨a, e, _, hw⟩ := DataW.trod_int Try.underlying3 h
  simp only [List.cons.injEq, and_true] at e
  exact ⟨a, e, bounds_i64 hw⟩
theorem open8_u32 {n : Nat} {c : Value} {y : Option (DataW H × List MemPlace)} (hy : y.isSome = true) (h : DataW.trod enc Try.prog W base spare held n 25 [c] = y) : ∃ a : Int, c = .int .u32 a ∧ 0 ≤ a ∧ a ≤ 4294967295 := by
  obtain ⟨z, rfl⟩ := Option.isSome_iff_exists.1 hy
  obtain ⟨a, e, _, hw⟩ := DataW.trod_int Try.underlying25 h
  simp only [List.cons.injEq, and_true] at e
  exact ⟨a, e, bounds_u32 hw⟩
theorem open8_u64 {n : Nat} {c : Value} {y : Option (DataW H × List MemPlace)} (hy : y.isSome = true) (h : DataW.trod enc Try.prog W base spare held n 39 [c] = y) : ∃ a : Int, c = .int .u64 a ∧ 0 ≤ a ∧ a ≤ 18446744073709551615 := by
  obtain ⟨z, rfl⟩ := Option.isSome_iff_exists.1 hy
  obtain ⟨a, e, _, hw⟩ := DataW.trod_int Try.underlying39 h
  simp only [List.cons.injEq, and_true] at e
  exact ⟨a, e, bounds_u64 hw⟩
theorem open8_bool {n : Nat} {c : Value} {y : Option (DataW H × List MemPlace)} (hy : y.isSome = true) (h : DataW.trod enc Try.prog W base spare held n 4 [c] = y) : ∃ a : Bool, c = .bool a := by
  obtain ⟨z, rfl⟩ := Option.isSome_iff_exists.1 hy
  obtain ⟨a, e, _⟩ := DataW.trod_bool Try.underlying4 h
  simp only [List.cons.injEq, and_true] at e
  exact ⟨a, e⟩
theorem open_orL8 {fuel : Nat} {l : List Value} {y : DataW H × List MemPlace} (hl : l.length = 5) (hf : DataW.trod enc Try.prog W base spare held fuel 41 l = some y) : ∃ o : Or, l = EO.cells o ∧ o.ok := by
  match l, hl with
  | [c0, c1, c2, c3, c4], _ =>
    obtain ⟨xs, n, _, hx, _, hlen, hg⟩ := DataW.trod_struct Try.underlying41 hf
    have iss : ∀ i, i < 5 → (xs[i]?).isSome = true := fun i hi => by
      have h5 : xs.length = 5 := hlen
      rw [List.getElem?_eq_getElem (by omega)]; rfl
    obtain ⟨nu, rfl, k0⟩ := open8_u64 (iss 0 (by omega)) (hg 0 _ rfl)
    obtain ⟨ac, rfl, k1⟩ := open8_u32 (iss 1 (by omega)) (hg 1 _ rfl)
    obtain ⟨bu, rfl⟩ := open8_bool (iss 2 (by omega)) (hg 2 _ rfl)
    obtain ⟨pr, rfl, k3⟩ := open8_i64 (iss 3 (by omega)) (hg 3 _ rfl)
    obtain ⟨le, rfl, k4⟩ := open8_i64 (iss 4 (by omega)) (hg 4 _ rfl)
    exact ⟨⟨nu, ac, bu, pr, le⟩, rfl, k0, k1, k3, k4⟩
theorem open_or8 {r : Reach} {b0 : Nat} {v : Value} {d : DataW H} {p : List MemPlace} (hv : Value.okWide Try.prog W r b0 41 v) (h : DataW.Trod enc Try.prog W base spare held 41 v d p) : ∃ o : Or, v = .agg (EO.cells o).toArray ∧ o.ok := by
  obtain ⟨cs, rfl, hsz⟩ := okWide_struct Try.underlying41 hv
  obtain ⟨l⟩ := cs
  obtain ⟨fuel, hf⟩ := h
  obtain ⟨o, rfl, ok⟩ := open_orL8 (hsz.trans cells8_or) hf
  exact ⟨o, rfl, ok⟩
theorem rd_of8 {α : Type} {E : Elt α} {A : Option Addr} {len : Nat} {os : List α} (h1 : os.length = len) (h3 : A = none → len = 0) (h6 : 0 < len → ∃ b o, A = some ⟨b, o, none⟩ ∧ b < W.heap.size ∧ ∀ (k : Nat) (x : α), os[k]? = some x → W.rangeAt b (o + k * E.N) (E.cells x)) : E.Rd W A len os := by
  refine ⟨h1, h3, fun hm a e => ?_⟩
  obtain ⟨b, o, e2, _, hx⟩ := h6 hm
  rw [e] at e2
  cases e2
  refine ⟨rfl, fun j u hj => ?_⟩
  have hl := (List.getElem?_eq_some_iff.1 hj).1
  rw [gflat_len] at hl
  have hN := E.pos
  have hk : j / E.N < os.length := Nat.div_lt_of_lt_mul (by rw [Nat.mul_comm]; exact hl)
  obtain ⟨x, hx'⟩ : ∃ x, os[j / E.N]? = some x := ⟨os[j / E.N], List.getElem?_eq_getElem hk⟩
  have hi := Nat.mod_lt j hN
  have ej : j / E.N * E.N + j % E.N = j := by rw [Nat.mul_comm]; exact Nat.div_add_mod j E.N
  have hf := gflat_at os (j / E.N) x hx' (j % E.N) hi
  rw [ej, hj] at hf
  have := hx (j / E.N) x hx' (j % E.N) u hf.symm
  rw [Nat.add_assoc, ej] at this
  exact this
theorem open_ors8 {fuel : Nat} {cs : List Value} {x : DataW H × List MemPlace} (h : DataW.trod enc Try.prog W base spare held fuel 31 cs = some x) :
    ∃ (A : Option Addr) (len cap : Nat) (os : List Or), cs = [.slice A len cap] ∧ EO.Rd W A len os ∧ (∀ x, x ∈ os → x.ok) ∧ len ≤ maxLen ∧ (A = none → cap = 0) ∧ len ≤ cap ∧ cap ≤ maxLen := by
  obtain ⟨A, len, cap, os, e, h1, h2, h3, h4, h5, h6⟩ := open_rows EO.cells Or.ok cells8_or (by decide) (fun x hx => EO.len x) Try.underlying31 (fun f l y hl hf => open_orL8 hl hf) h
  exact ⟨A, len, cap, os, e, rd_of8 h1 (fun e => (h3 e).1) h6, h2, by omega, fun e => (h3 e).2, h4, h5⟩
end
end Go.Proofs.Ytcpcnjiphiokjaa
