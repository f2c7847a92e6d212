/- An argument that is a list of structs, opened; no program's function, no program's type. -/
import Derived.OpenShut
import Derived.ProofKit
import Derived.Deep.Slices
import Derived.Deep.MidRow
import Derived.Maps.AppendAt
import Derived.Test.YtpfhkmppbochnaaProg
namespace Go.Proofs.Ytpfhkmppbochnaa
open Go.ChangeShapes Go.WideShapes Go.ChangeAt Go.RowKit

section
variable {H : Type} {enc : TypeId × Value → H} {W : World} {base : Nat} {spare : Nat → Bool} {held : Bool}
/-- A list of structs, opened at every place. -/
theorem open_rows {α : Type} (cells : α → List Value) (good : α → Prop) {t e : TypeId} {N : Nat} (hN : Try.prog.cellsOf e = N) (hpos : 0 < N) (hcl : ∀ x, good x → (cells x).length = N) (ht : Try.prog.underlying t = some (.slice e))
    (one : ∀ (fuel : Nat) (l : List Value) (y : DataW H × List MemPlace), l.length = N → DataW.trod enc Try.prog W base spare held fuel e l = some y → ∃ x, l = cells x ∧ good x)
    {fuel : Nat} {cs : List Value} {x : DataW H × List MemPlace} (h : DataW.trod enc Try.prog W base spare held fuel t cs = some x) :
    ∃ (A : Option Addr) (len cap : Nat) (os : List α), cs = [.slice A len cap] ∧ os.length = len ∧ (∀ x, x ∈ os → good x) ∧ (A = none → len = 0 ∧ cap = 0) ∧ len ≤ cap ∧ cap ≤ maxLen ∧
      (0 < len → ∃ b o, A = some ⟨b, o, none⟩ ∧ b < W.heap.size ∧ ∀ (k : Nat) (x : α), os[k]? = some x → W.rangeAt b (o + k * N) (cells x)) := by
  rcases Deep.open_slice ht h with ⟨rfl, _⟩ | ⟨a, len, cap, m, n, D, Pl, rfl, hb, hl, hm, hmm, _, hx⟩
  · exact ⟨none, 0, 0, [], rfl, rfl, (fun x hx => by cases hx), (fun _ => ⟨rfl, rfl⟩), Nat.le_refl _, Nat.zero_le _, fun h => absurd h (Nat.lt_irrefl 0)⟩
  · have hlm : len ≤ m := by rw [hmm]; split <;> omega
    have each : ∀ i : Nat, i < len → ∃ y : α, good y ∧ ∀ j, j < N → W.cell? ((a.add (i * N)).add j) = (cells y)[j]? := fun i hi => by
      obtain ⟨cs', h1, h2⟩ := hx i (by omega)
      rw [hN] at h1
      obtain ⟨_, hlen, hc⟩ := World.cells?_some h1
      obtain ⟨y, rfl, hy⟩ := one _ _ _ hlen h2
      exact ⟨y, hy, hc⟩
    refine ⟨some a, len, cap, List.ofFn fun i : Fin len => (each i.1 i.2).choose, rfl, by simp, fun y hy => ?_, fun h => (by cases h), hl, hm, fun hp => ?_⟩
    · obtain ⟨i, rfl⟩ := List.mem_ofFn.1 hy
      exact (each i.1 i.2).choose_spec.1
    · obtain ⟨b, off, spot⟩ := a
      have h0 := (each 0 hp).choose_spec
      have c0 := h0.2 0 hpos
      have hl0 := hcl _ h0.1
      rw [List.getElem?_eq_getElem (by omega)] at c0
      have hspot : spot = none := by simpa [Addr.add] using World.cell?_spot c0
      subst hspot
      have plain : ∀ i j, ((⟨b, off, none⟩ : Addr).add i).add j = ⟨b, off + i + j, none⟩ := fun i j => (congrArg (fun x : Addr => x.add j) (Go.WideShapes.add_plain b off i)).trans (Go.WideShapes.add_plain b (off + i) j)
      refine ⟨b, off, rfl, World.block_lt_of_cell? W _ ((congrArg W.cell? (plain (0 * N) 0)).symm.trans c0), fun k y hk j v hj => ?_⟩
      obtain ⟨hkl, hke⟩ := List.getElem?_eq_some_iff.1 hk
      have hkl' : k < len := by simpa using hkl
      have hy : y = (each k hkl').choose := by rw [← hke]; simp
      have hjl := (List.getElem?_eq_some_iff.1 hj).1
      have hs := (each k hkl').choose_spec
      rw [hy] at hj hjl
      rw [hcl _ hs.1] at hjl
      exact (congrArg W.cell? (plain (k * N) j)).symm.trans ((hs.2 j hjl).trans hj)
end
end Go.Proofs.Ytpfhkmppbochnaa
