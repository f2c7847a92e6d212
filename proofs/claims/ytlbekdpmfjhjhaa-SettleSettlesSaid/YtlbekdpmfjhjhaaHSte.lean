/- Dues and what became of them as cells; arguments opened; what is asked of the program. -/
import Derived.OpenShut
import Derived.ProofKit
import Derived.Test.YtlbekdpmfjhjhaaHSa
import Derived.Test.YtlbekdpmfjhjhaaHStc
import Derived.Test.YtlbekdpmfjhjhaaHRo
namespace Go.Proofs.Ytlbekdpmfjhjhaa
open Go.ChangeShapes Go.WideShapes Go.ChangeAt Go.RowKit
set_option linter.unusedVariables false
set_option linter.unusedSimpArgs false
set_option maxRecDepth 100000

structure Du.ok (d : Du) : Prop where
  ac : 0 ≤ d.ac ∧ d.ac ≤ 4294967295
  ca : I64 d.ca
  v : I64 d.v
def ED : Elt Du := ⟨fun d => [.int .u32 d.ac, .int .i64 d.ca, .int .i64 d.v], 3, by decide, fun _ => rfl, fun x u hu => by
  simp only [List.mem_cons, List.not_mem_nil, or_false] at hu
  rcases hu with rfl | rfl | rfl <;> rfl⟩
def ESd : Elt Sd := ⟨fun x => [.int .u32 x.ac, .int .i64 x.ca, .bool x.de, .int .i64 x.cu], 4, by decide, fun _ => rfl, fun x u hu => by
  simp only [List.mem_cons, List.not_mem_nil, or_false] at hu
  rcases hu with rfl | rfl | rfl | rfl <;> rfl⟩
def zeroDu : Du := ⟨0, 0, 0⟩
def zeroSd : Sd := ⟨0, 0, false, 0⟩
theorem TDu : EltT Try.prog ED 22 30 := ⟨Try.underlying22, ⟨_, Try.underlying30⟩, ⟨.agg (ED.cells zeroDu).toArray, 24, by kernel_rfl, rfl, by decide⟩⟩
theorem TSd : EltT Try.prog ESd 24 34 := ⟨Try.underlying24, ⟨_, Try.underlying34⟩, ⟨.agg (ESd.cells zeroSd).toArray, 32, by kernel_rfl, rfl, by decide⟩⟩
/-- What Settle tells. -/
def ToldS (f : Int) (l : List Du) (B : Nat) (w w' : World) (e : Ending) : Prop :=
  ∃ A c, e = .returned (.tuple #[.slice A (if errS f l = 0 then outS f l else []).length c, .int .i64 (if errS f l = 0 then fundS f l else 0), .int .i64 (errS f l)]) ∧ ESd.Rd w' A (if errS f l = 0 then outS f l else []).length (if errS f l = 0 then outS f l else []) ∧ Below B w w'
/-- What is asked of the program. -/
structure SettleK : Prop where
  settle : ∀ (f : Int) (A : Option Addr) (len cap : Nat) (l : List Du) (w : World), I64 f → ED.Rd w A len l → (∀ d, d ∈ l → d.ok) → len ≤ maxLen → Calls Try.prog 8 #[.int .i64 f, .slice A len cap] w (fun e w' => ToldS f l w.heap.size w w' e)
section
variable {H : Type} {enc : TypeId × Value → H} {W : World} {base : Nat} {spare : Nat → Bool} {held : Bool}
theorem cells13_du : Try.prog.cellsOf 30 = 3 := by kernel_rfl
theorem open13_i64 {n : Nat} {c : Value} {y : Option (DataW H × List MemPlace)} (hy : y.isSome = true) (h : DataW.trod enc Try.prog W base spare held n 2 [c] = y) : ∃ a : Int, c = .int .i64 a ∧ I64 a := by
  obtain ⟨z, rfl⟩ := Option.isSome_iff_exists.1 hy
  obtain ⟨a, e, _, hw⟩ := DataW.trod_int Try.underlying2 h
  simp only [List.cons.injEq, and_true] at e
  exact ⟨a, e, bounds_i64 hw⟩
theorem open13_u32 {n : Nat} {c : Value} {y : Option (DataW H × List MemPlace)} (hy : y.isSome = true) (h : DataW.trod enc Try.prog W base spare held n 28 [c] = y) : ∃ a : Int, c = .int .u32 a ∧ 0 ≤ a ∧ a ≤ 4294967295 := by
  obtain ⟨z, rfl⟩ := Option.isSome_iff_exists.1 hy
  obtain ⟨a, e, _, hw⟩ := DataW.trod_int Try.underlying28 h
  simp only [List.cons.injEq, and_true] at e
  exact ⟨a, e, bounds_u32 hw⟩
theorem open13_duL {fuel : Nat} {l : List Value} {y : DataW H × List MemPlace} (hl : l.length = 3) (hf : DataW.trod enc Try.prog W base spare held fuel 30 l = some y) : ∃ d : Du, l = ED.cells d ∧ d.ok := by
  match l, hl with
  | [c0, c1, c2], _ =>
    obtain ⟨xs, n, _, hx, _, hlen, hg⟩ := DataW.trod_struct Try.underlying30 hf
    have iss : ∀ i, i < 3 → (xs[i]?).isSome = true := fun i hi => by
      have h5 : xs.length = 3 := hlen
      rw [List.getElem?_eq_getElem (by omega)]; rfl
    obtain ⟨ac, rfl, k0⟩ := open13_u32 (iss 0 (by omega)) (hg 0 _ rfl)
    obtain ⟨ca, rfl, k1⟩ := open13_i64 (iss 1 (by omega)) (hg 1 _ rfl)
    obtain ⟨v, rfl, k2⟩ := open13_i64 (iss 2 (by omega)) (hg 2 _ rfl)
    exact ⟨⟨ac, ca, v⟩, rfl, k0, k1, k2⟩
theorem rd_of13 {α : Type} {E : Elt α} {A : Option Addr} {len : Nat} {os : List α} (h1 : os.length = len) (h3 : A = none → len = 0) (h6 : 0 < len → ∃ b o, A = some ⟨b, o, none⟩ ∧ b < W.heap.size ∧ ∀ (k : Nat) (x : α), os[k]? = some x → W.rangeAt b (o + k * E.N) (E.cells x)) : E.Rd W A len os := by
  refine ⟨h1, h3, fun hm a e => ?_⟩
  obtain ⟨b, o, e2, _, hx⟩ := h6 hm
  rw [e] at e2
  cases e2
  refine ⟨rfl, fun j u hj => ?_⟩
  have hl := (List.getElem?_eq_some_iff.1 hj).1
  rw [gflat_len] at hl
  have hN := E.pos
  have hk : j / E.N < os.length := Nat.div_lt_of_lt_mul (by rw [Nat.mul_comm]; exact hl)
  obtain ⟨x, hx'⟩ : ∃ x, os[j / E.N]? = some x := ⟨os[j / E.N], List.getElem?_eq_getElem hk⟩
  have hi := Nat.mod_lt j hN
  have ej : j / E.N * E.N + j % E.N = j := by rw [Nat.mul_comm]; exact Nat.div_add_mod j E.N
  have hf := gflat_at os (j / E.N) x hx' (j % E.N) hi
  rw [ej, hj] at hf
  have := hx (j / E.N) x hx' (j % E.N) u hf.symm
  rw [Nat.add_assoc, ej] at this
  exact this
theorem open_dus13 {fuel : Nat} {cs : List Value} {x : DataW H × List MemPlace} (h : DataW.trod enc Try.prog W base spare held fuel 22 cs = some x) :
    ∃ (A : Option Addr) (len cap : Nat) (os : List Du), cs = [.slice A len cap] ∧ ED.Rd W A len os ∧ (∀ x, x ∈ os → x.ok) ∧ len ≤ maxLen ∧ (A = none → cap = 0) ∧ len ≤ cap ∧ cap ≤ maxLen := by
  obtain ⟨A, len, cap, os, e, h1, h2, h3, h4, h5, h6⟩ := open_rows ED.cells Du.ok cells13_du (by decide) (fun x hx => ED.len x) Try.underlying22 (fun f l y hl hf => open13_duL hl hf) h
  exact ⟨A, len, cap, os, e, rd_of13 h1 (fun e => (h3 e).1) h6, h2, by omega, fun e => (h3 e).2, h4, h5⟩
end
end Go.Proofs.Ytlbekdpmfjhjhaa
