/- Holders as cells; arguments opened; what is asked of the program. -/
import Derived.OpenShut
import Derived.ProofKit
import Derived.Test.YtpfhkmppbochnaaHSa
import Derived.Test.YtpfhkmppbochnaaHTpa
import Derived.Test.YtpfhkmppbochnaaHRo
namespace Go.Proofs.Ytpfhkmppbochnaa
open Go.ChangeShapes Go.WideShapes Go.ChangeAt Go.RowKit
set_option linter.unusedVariables false
set_option linter.unusedSimpArgs false
set_option maxRecDepth 100000

structure Ho.ok (d : Ho) : Prop where
  ac : 0 ≤ d.ac ∧ d.ac ≤ 4294967295
  q : I64 d.q
def EH : Elt Ho := ⟨fun d => [.int .u32 d.ac, .int .i64 d.q], 2, by decide, fun _ => rfl, fun x u hu => by
  simp only [List.mem_cons, List.not_mem_nil, or_false] at hu
  rcases hu with rfl | rfl <;> rfl⟩
def zeroHo : Ho := ⟨0, 0⟩
theorem TH : EltT Try.prog EH 22 32 := ⟨Try.underlying22, ⟨_, Try.underlying32⟩, ⟨.agg (EH.cells zeroHo).toArray, 16, by kernel_rfl, rfl, by decide⟩⟩
/-- What Parts tells. -/
def ToldP (q : Int) (l : List Ho) (B : Nat) (w w' : World) (e : Ending) : Prop :=
  ∃ A c, e = .returned (.tuple #[.slice A (if errP q l = 0 then outP q l else []).length c, .int .i64 (errP q l)]) ∧ EH.Rd w' A (if errP q l = 0 then outP q l else []).length (if errP q l = 0 then outP q l else []) ∧ Below B w w'
/-- What is asked of the program. -/
structure TearK : Prop where
  parts : ∀ (q : Int) (A : Option Addr) (len cap : Nat) (l : List Ho) (w : World), I64 q → EH.Rd w A len l → (∀ d, d ∈ l → d.ok) → len ≤ maxLen → Calls Try.prog 8 #[.int .i64 q, .slice A len cap] w (fun e w' => ToldP q l w.heap.size w w' e)
section
variable {H : Type} {enc : TypeId × Value → H} {W : World} {base : Nat} {spare : Nat → Bool} {held : Bool}
theorem cells14_ho : Try.prog.cellsOf 32 = 2 := by kernel_rfl
theorem open14_i64 {n : Nat} {c : Value} {y : Option (DataW H × List MemPlace)} (hy : y.isSome = true) (h : DataW.trod enc Try.prog W base spare held n 2 [c] = y) : ∃ a : Int, c = .int .i64 a ∧ I64 a := by
  obtain ⟨z, rfl⟩ := Option.isSome_iff_exists.1 hy
  obtain ⟨a, e, _, hw⟩ := DataW.trod_int Try.underlying2 h
  simp only [List.cons.injEq, and_true] at e
  exact ⟨a, e, bounds_i64 hw⟩
theorem open14_u32 {n : Nat} {c : Value} {y : Option (DataW H × List MemPlace)} (hy : y.isSome = true) (h : DataW.trod enc Try.prog W base spare held n 30 [c] = y) : ∃ a : Int, c = .int .u32 a ∧ 0 ≤ a ∧ a ≤ 4294967295 := by
  obtain ⟨z, rfl⟩ := Option.isSome_iff_exists.1 hy
  obtain ⟨a, e, _, hw⟩ := DataW.trod_int Try.underlying30 h
  simp only [List.cons.injEq, and_true] at e
  exact ⟨a, e, bounds_u32 hw⟩
theorem open14_hoL {fuel : Nat} {l : List Value} {y : DataW H × List MemPlace} (hl : l.length = 2) (hf : DataW.trod enc Try.prog W base spare held fuel 32 l = some y) : ∃ d : Ho, l = EH.cells d ∧ d.ok := by
  match l, hl with
  | [c0, c1], _ =>
    obtain ⟨xs, n, _, hx, _, hlen, hg⟩ := DataW.trod_struct Try.underlying32 hf
    have iss : ∀ i, i < 2 → (xs[i]?).isSome = true := fun i hi => by
      have h5 : xs.length = 2 := hlen
      rw [List.getElem?_eq_getElem (by omega)]; rfl
    obtain ⟨ac, rfl, k0⟩ := open14_u32 (iss 0 (by omega)) (hg 0 _ rfl)
    obtain ⟨q, rfl, k1⟩ := open14_i64 (iss 1 (by omega)) (hg 1 _ rfl)
    exact ⟨⟨ac, q⟩, rfl, k0, k1⟩
theorem rd_of14 {α : Type} {E : Elt α} {A : Option Addr} {len : Nat} {os : List α} (h1 : os.length = len) (h3 : A = none → len = 0) (h6 : 0 < len → ∃ b o, A = some ⟨b, o, none⟩ ∧ b < W.heap.size ∧ ∀ (k : Nat) (x : α), os[k]? = some x → W.rangeAt b (o + k * E.N) (E.cells x)) : E.Rd W A len os := by
  refine ⟨h1, h3, fun hm a e => ?_⟩
  obtain ⟨b, o, e2, _, hx⟩ := h6 hm
  rw [e] at e2
  cases e2
  refine ⟨rfl, fun j u hj => ?_⟩
  have hl := (List.getElem?_eq_some_iff.1 hj).1
  rw [gflat_len] at hl
  have hN := E.pos
  have hk : j / E.N < os.length := Nat.div_lt_of_lt_mul (by rw [Nat.mul_comm]; exact hl)
  obtain ⟨x, hx'⟩ : ∃ x, os[j / E.N]? = some x := ⟨os[j / E.N], List.getElem?_eq_getElem hk⟩
  have hi := Nat.mod_lt j hN
  have ej : j / E.N * E.N + j % E.N = j := by rw [Nat.mul_comm]; exact Nat.div_add_mod j E.N
  have hf := gflat_at os (j / E.N) x hx' (j % E.N) hi
  rw [ej, hj] at hf
  have := hx (j / E.N) x hx' (j % E.N) u hf.symm
  rw [Nat.add_assoc, ej] at this
  exact this
theorem open_hos14 {fuel : Nat} {cs : List Value} {x : DataW H × List MemPlace} (h : DataW.trod enc Try.prog W base spare held fuel 22 cs = some x) :
    ∃ (A : Option Addr) (len cap : Nat) (os : List Ho), cs = [.slice A len cap] ∧ EH.Rd W A len os ∧ (∀ x, x ∈ os → x.ok) ∧ len ≤ maxLen ∧ (A = none → cap = 0) ∧ len ≤ cap ∧ cap ≤ maxLen := by
  obtain ⟨A, len, cap, os, e, h1, h2, h3, h4, h5, h6⟩ := open_rows EH.cells Ho.ok cells14_ho (by decide) (fun x hx => EH.len x) Try.underlying22 (fun f l y hl hf => open14_hoL hl hf) h
  exact ⟨A, len, cap, os, e, rd_of14 h1 (fun e => (h3 e).1) h6, h2, by omega, fun e => (h3 e).2, h4, h5⟩
end
end Go.Proofs.Ytpfhkmppbochnaa
