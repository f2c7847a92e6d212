/- Lists of structs cut, whatever the struct; an order in a list of one. -/
import Derived.Test.YtcjianjnedbjkaaAm
namespace Go.Proofs.Ytcjianjnedbjkaa
open Go.RowKit Go.Shelf
set_option linter.unusedVariables false
set_option linter.unusedSimpArgs false

section
variable {α : Type} {E : Elt α} {P : Program} {ts te : TypeId}
theorem grd_cut8 {W : World} {A : Option Addr} {m : Nat} {l : List α} (h : E.Rd W A m l) {i j : Nat} (hij : i ≤ j) (hj : j ≤ m) : E.Rd W (A.map fun a => a.add (i * E.N)) (j - i) ((l.take j).drop i) := by
  have g := grd_part h hij hj
  refine ⟨g.1, fun e => ?_, fun hp a e => ?_⟩
  · cases A with
    | none => exact g.2.1 rfl
    | some a => cases e
  · cases A with
    | none => cases e
    | some a0 =>
      have e0 := (h.2.2 (by omega) a0 rfl).1
      have e1 : a0.add (i * E.N) = ⟨a0.block, a0.off + i * E.N, none⟩ := by rw [e0]; exact Go.WideShapes.add_plain _ _ _
      refine g.2.2 hp a ?_
      rw [← e]
      simp only [Option.map_some, e1]
theorem gsizeOf8 (T : EltT P E ts te) (w : World) : (Go.sizeOf te).run P w = .ok E.N w := by
  obtain ⟨z, by', hi, _, _⟩ := T.info
  obtain ⟨i0, hi0, _, hz1, _⟩ := info_parts hi
  simp [Go.sizeOf, typeInfo, hi0, hz1]
theorem cut_lo8 (T : EltT P E ts te) (A : Option Addr) (n c k : Nat) (l : List α) (hk : k ≤ n) (hc : n ≤ c) (h0 : A = none → c = 0) :
    ∃ A1, (∀ W, (Instr.slice ts (.slice A n c) none (some (.int .i64 (k : Int))) none).run P W = .ok (.slice A1 k c) W) ∧ (∀ W, E.Rd W A n l → E.Rd W A1 k (l.take k)) ∧ (A1 = none → c = 0) := by
  refine ⟨if c = 0 then A else A.map (·.add (0 * E.N)), fun W => ?_, fun W h => ?_, fun h => ?_⟩
  · have : k ≤ c := by omega
    simp [Instr.slice, Instr.sliceBounds, Instr.sliceBound, run_underlying T.und, gsizeOf8 T, asIntOf, Result.andThen, this]
  · split
    · have e : k = 0 := by omega
      subst e
      exact ⟨by simp, fun _ => rfl, fun h => absurd h (Nat.lt_irrefl 0)⟩
    · have := grd_cut8 h (Nat.zero_le k) hk
      simpa using this
  · split at h
    · assumption
    · cases A with
      | none => exact h0 rfl
      | some a => cases h
theorem cut_hi8 (T : EltT P E ts te) (A : Option Addr) (n c k : Nat) (l : List α) (hk : k ≤ n) (hc : n ≤ c) (h0 : A = none → c = 0) :
    ∃ A1, (∀ W, (Instr.slice ts (.slice A n c) (some (.int .i64 (k : Int))) none none).run P W = .ok (.slice A1 (n - k) (c - k)) W) ∧ (∀ W, E.Rd W A n l → E.Rd W A1 (n - k) (l.drop k)) ∧ (A1 = none → c - k = 0) := by
  refine ⟨if c = k then A else A.map (·.add (k * E.N)), fun W => ?_, fun W h => ?_, fun h => ?_⟩
  · simp [Instr.slice, Instr.sliceBounds, Instr.sliceBound, run_underlying T.und, gsizeOf8 T, asIntOf, Result.andThen, hk]
  · split
    · have e : n - k = 0 := by omega
      rw [e]
      refine ⟨by rw [List.length_drop, h.1]; exact e, fun _ => rfl, fun h => absurd h (Nat.lt_irrefl 0)⟩
    · have := grd_cut8 h hk (Nat.le_refl n)
      rwa [List.take_of_length_le (by rw [h.1]; exact Nat.le_refl _)] at this
  · split at h
    · omega
    · cases A with
      | none => have := h0 rfl; omega
      | some a => cases h
end
theorem fill_or8 (o : Or) (z : Value) (h : z.cells.size = EO.N) : Instr.fill (fun i => some (i * EO.N, EO.N)) ((Array.range (1 * EO.N)).map (z.cells[· % z.cells.size]!)) [(0, .agg (EO.cells o).toArray)] = some (EO.cells o).toArray := by
  obtain ⟨a, b, c, d, e, hz⟩ := five8 (show z.cells.size = 5 from h)
  rw [hz]
  obtain ⟨nu, ac, bu, pr, le⟩ := o
  kernel_rfl
end Go.Proofs.Ytcjianjnedbjkaa
