/- Plain facts on what is read back: what was written is read, and what is read is, written again, the bytes that were read. -/
import Derived.Test.YtlnakhbcefmiaaaBy
import Derived.Test.YtlnakhbcefmiaaaPt
import Derived.Test.YtlnakhbcefmiaaaRdMath
import Derived.Test.YtlnakhbcefmiaaaVr
namespace Go.Proofs.Ytlnakhbcefmiaaa
open Go.RowKit


theorem s_nb {n : Nat} (hn : n < 18446744073709551616) (l : List Int) : sR (nb n ++ l) 0 top = ((n : Int), l, 0) := by
  unfold sR
  rw [if_neg (by simp), rd_nb hn l]
  dsimp only
  rw [if_neg (by simp), if_neg (by unfold top; omega), List.drop_left]
theorem zz_num (i : Int) (h : -9223372036854775808 ≤ i ∧ i ≤ 9223372036854775807) : ∃ N : Nat, N < 18446744073709551616 ∧ ib i = nb N ∧ zz N = i := by
  by_cases h0 : 0 ≤ i
  · refine ⟨(2 * i).toNat, by omega, if_pos h0, ?_⟩
    unfold zz
    rw [if_pos (by omega)]; omega
  · refine ⟨(2 * (-(i + 1)) + 1).toNat, by omega, if_neg h0, ?_⟩
    unfold zz
    rw [if_neg (by omega)]; omega
theorem s_ib {i : Int} (h : -9223372036854775808 ≤ i ∧ i ≤ 9223372036854775807) (l : List Int) : zz (sR (ib i ++ l) 0 top).1 = i ∧ (sR (ib i ++ l) 0 top).2 = (l, 0) := by
  obtain ⟨N, h1, h2, h3⟩ := zz_num i h
  rw [h2, s_nb h1 l]
  exact ⟨h3, rfl⟩
theorem ld_ge : ∀ (bs : List Int) (t : Nat), t < ld bs → 128 ≤ bs.getD t 0
  | [], t, h => by simp [ld] at h
  | x :: l, 0, h => by
    simp only [ld] at h
    split at h
    · simpa using (by assumption : 128 ≤ x)
    · omega
  | x :: l, t + 1, h => by
    simp only [ld] at h
    split at h
    · have := ld_ge l t (by omega)
      simpa [List.getD] using this
    · omega
theorem ld_at : ∀ (bs : List Int), ld bs < bs.length → bs.getD (ld bs) 0 < 128
  | [], h => by simp at h
  | x :: l, h => by
    simp only [ld] at h ⊢
    split
    · rename_i c
      rw [if_pos c] at h
      have := ld_at l (by simp at h; omega)
      simpa [List.getD] using this
    · simp; omega
/-- One form: a number. -/
theorem rd_form {bs : List Int} (hy : By bs) (h : (rdN bs).2.2 = 0) : bs.take (rdN bs).2.1 = nb (rdN bs).1.toNat ∧ (rdN bs).2.1 ≤ bs.length ∧ 0 < (rdN bs).2.1 := by
  refine ⟨?_, rdN_le bs, rdN_pos h⟩
  have e : ¬ bs.length ≤ ld bs := fun c => by
    unfold rdN at h
    rw [if_pos c] at h
    dsimp only at h
    split at h <;> cases h
  have e2 : ¬ (9 < ld bs ∨ (ld bs = 9 ∧ 1 < bs.getD 9 0) ∨ (0 < ld bs ∧ bs.getD (ld bs) 0 = 0)) := fun c => by
    unfold rdN at h
    rw [if_neg e, if_pos c] at h
    cases h
  have r : rdN bs = (dv (bs.take (ld bs + 1)), ld bs + 1, 0) := by unfold rdN; rw [if_neg e, if_neg e2]
  rw [r]
  have hl : (bs.take (ld bs + 1)).length = ld bs + 1 := by rw [List.length_take]; omega
  refine (nb_dv (bs.take (ld bs + 1)) (fun x hx => hy x (List.mem_of_mem_take hx)) (fun t ht => ?_) (by omega) ?_ (fun h1 => ?_)).symm
  · rw [hl] at ht
    rw [take_getD (by omega)]
    exact ld_ge bs t (by omega)
  · rw [hl, take_getD (by omega)]
    exact ld_at bs (by omega)
  · rw [hl] at h1 ⊢
    rw [take_getD (by omega)]
    intro c
    exact e2 (.inr (.inr ⟨by omega, c⟩))
/-- One form: a whole number. -/
theorem ib_zz {n : Nat} (hn : n < 18446744073709551616) : ib (zz n) = nb n := by
  unfold zz
  split
  · rw [ib, if_pos (by omega)]
    congr 1; omega
  · rw [ib, if_neg (by omega)]
    congr 1; omega

theorem sR_by {bs : List Int} (hy : By bs) (e m : Int) : By (sR bs e m).2.1 ∧ (sR bs e m).2.1.length ≤ bs.length := by
  unfold sR
  split
  · exact ⟨hy, Nat.le_refl _⟩
  · split
    · exact ⟨hy, Nat.le_refl _⟩
    · split
      · exact ⟨hy, Nat.le_refl _⟩
      · exact ⟨fun x hx => hy x (List.mem_of_mem_drop hx), by dsimp only; rw [List.length_drop]; omega⟩
end Go.Proofs.Ytlnakhbcefmiaaa
