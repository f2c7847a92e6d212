/- Plain facts on what a price reaches. -/
import Derived.Test.YtpnccbcaoifdiaaSt
import Derived.Test.YtpnccbcaoifdiaaSm
namespace Go.Proofs.Ytpnccbcaoifdiaa
open Go.RowKit
set_option linter.unusedVariables false

section
variable {buy : Bool} {p nt : Int} {x : Or}
theorem one_worse (h : btr buy p x.pr = true) : oneR buy p nt x = 0 := by
  unfold oneR condR
  rw [btr_as h]
  have : (x.pr == p) = false := by
    rw [beq_eq_false_iff_ne]
    rintro rfl
    rw [btr_irr] at h
    cases h
  rw [this]
  simp
theorem one_good (h : btr buy p x.pr = false) : oneR buy p nt x = if x.ac != nt then x.le else 0 := by
  unfold oneR condR
  have : (x.pr == p || btr buy x.pr p) = true := by
    cases c : btr buy x.pr p
    · rw [btr_tot h c]; simp
    · simp
  rw [this, Bool.and_true]
end
theorem sumR_zero {buy : Bool} {p nt : Int} : ∀ {l : List Or}, (∀ x, x ∈ l → btr buy p x.pr = true) → sumR buy l p nt = 0
  | [], _ => rfl
  | x :: r, h => by
    have e : sumR buy (x :: r) p nt = oneR buy p nt x + sumR buy r p nt := by simp [sumR]
    rw [e, one_worse (h x (List.mem_cons_self ..)), sumR_zero fun y hy => h y (List.mem_cons_of_mem _ hy)]
    rfl
theorem sumR_app (buy : Bool) (p nt : Int) (a b : List Or) : sumR buy (a ++ b) p nt = sumR buy a p nt + sumR buy b p nt := by simp [sumR]
/-- Behind one that is worse than the price all are. -/
theorem sumR_stop {buy : Bool} {os : List Or} {p nt : Int} (s : Srt buy os) {k : Nat} {x : Or} (hx : os[k]? = some x) (hw : btr buy p x.pr = true) : sumR buy os p nt = sumR buy (os.take k) p nt := by
  have e := sumR_app buy p nt (os.take k) (os.drop k)
  rw [List.take_append_drop] at e
  rw [e, sumR_zero (l := os.drop k) fun y hy => ?_, Int.add_zero]
  obtain ⟨j, hj⟩ := List.mem_iff_getElem?.1 hy
  rw [List.getElem?_drop] at hj
  obtain ⟨hkl, hkg⟩ := List.getElem?_eq_some_iff.1 hx
  obtain ⟨hjl, hjg⟩ := List.getElem?_eq_some_iff.1 hj
  rcases Nat.eq_zero_or_pos j with rfl | c
  · have : x = y := by rw [← hkg, ← hjg]; rfl
    rw [← this]; exact hw
  · have q := List.pairwise_iff_getElem.1 s k (k + j) hkl hjl (by omega)
    rw [hkg, hjg] at q
    exact btr_tr hw q
end Go.Proofs.Ytpnccbcaoifdiaa
