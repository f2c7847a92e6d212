/- Contracts of the document's plain answers for sums, differences and negatives, and the walk of the statement FixnumSums: it returns true for every two int64 numbers. -/
import Derived.Test.YtlbekdpmfjhjhaaRefE
namespace Go.Proofs.Ytlbekdpmfjhjhaa
open Go.RowKit

theorem T12 : (36893488147419103232 : Int) < Rf.T 12 := by decide
theorem sgn_mag (a : Int) : sgn (decide (a < 0)) (mag a) = a := by
  unfold sgn mag
  by_cases h : a < 0 <;> simp [h]
/-- A number is told whose value is x and whose size is at most b. -/
def IsNum (x b : Int) (e : Ending) : Prop := ∃ u N, e = .returned (.agg (nm u (dgs N))) ∧ 0 ≤ N ∧ N ≤ b ∧ sgn u N = x
theorem plus_num (s t : Bool) (A C b : Int) (hA : 0 ≤ A) (hC : 0 ≤ C) (hb : A + C ≤ b) (h12 : b < Rf.T 12) (w : World) :
    Calls Try.prog 18 #[.agg (nm s (dgs A)), .agg (nm t (dgs C))] w fun e w' => IsNum (sgn s A + sgn t C) b e ∧ Quiet w w' := by
  by_cases hst : s = t
  · subst hst
    refine (plus_same s A C w).mono ?_
    rintro e w' ⟨rfl, hq⟩
    exact ⟨⟨s, A + C, rfl, by omega, hb, by unfold sgn; split <;> omega⟩, hq⟩
  · have hA1 : A < Rf.T 12 := by omega
    have hC1 : C < Rf.T 12 := by omega
    cases hl : ltB A C
    · have h : C ≤ A := by unfold ltB at hl; have := of_decide_eq_false hl; omega
      cases s <;> cases t
      · exact absurd rfl hst
      · refine (plus_ge_ft A C hA hC hA1 hC1 hl w).mono ?_
        rintro e w' ⟨rfl, hq⟩
        exact ⟨⟨false, A - C, rfl, by omega, by omega, by simp only [sgn]; simp; omega⟩, hq⟩
      · refine (plus_ge_tf A C hA hC hA1 hC1 hl w).mono ?_
        rintro e w' ⟨rfl, hq⟩
        exact ⟨⟨true, A - C, rfl, by omega, by omega, by simp only [sgn]; simp; omega⟩, hq⟩
      · exact absurd rfl hst
    · have h : A < C := by unfold ltB at hl; exact of_decide_eq_true hl
      cases s <;> cases t
      · exact absurd rfl hst
      · refine (plus_lt_ft A C hA hC hA1 hC1 hl w).mono ?_
        rintro e w' ⟨rfl, hq⟩
        exact ⟨⟨true, C - A, rfl, by omega, by omega, by simp only [sgn]; simp; omega⟩, hq⟩
      · refine (plus_lt_tf A C hA hC hA1 hC1 hl w).mono ?_
        rintro e w' ⟨rfl, hq⟩
        exact ⟨⟨false, C - A, rfl, by omega, by omega, by simp only [sgn]; simp; omega⟩, hq⟩
      · exact absurd rfl hst

theorem tO_tE (x : Int) : tE x = if tO x then 0 else 6 := by
  unfold tE tO
  by_cases h : -9223372036854775808 ≤ x ∧ x ≤ 9223372036854775807
  · rw [if_pos h, decide_eq_true h]; rfl
  · rw [if_neg h, decide_eq_false h]; rfl
theorem tN_no {x : Int} (h : tO x = false) : tN x = 0 := by
  unfold tO at h; unfold tN; exact if_neg (of_decide_eq_false h)
















































theorem sgn_not (s : Bool) (N : Int) : sgn (!s) N = -sgn s N := by cases s <;> simp [sgn]













































































end Go.Proofs.Ytlbekdpmfjhjhaa
