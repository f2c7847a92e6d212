/- Plain arithmetic on rows of numbers, no program: the places below n stand in some order, of whatever key. -/
import Derived.Test.YtlbekdpmfjhjhaaSortMath
namespace Go.Proofs.Ytlbekdpmfjhjhaa
namespace St
variable {key : Int → Int}
theorem spot (f : Nat → Int) (m : Nat) (hd : ∀ j, j < m → lt key (f j) (f m) ∨ lt key (f m) (f j)) : ∀ j, j ≤ m → ∃ i, i ≤ j ∧ (0 < i → lt key (f (i - 1)) (f m)) ∧ (i < j → lt key (f m) (f i))
  | 0, _ => ⟨0, Nat.le_refl _, fun h => absurd h (Nat.lt_irrefl _), fun h => absurd h (Nat.lt_irrefl _)⟩
  | j + 1, hj => by
    obtain ⟨i, h1, h2, h3⟩ := spot f m hd j (by omega)
    by_cases c : i < j
    · exact ⟨i, by omega, h2, fun _ => h3 c⟩
    · obtain rfl : i = j := by omega
      rcases hd i (by omega) with k | k
      · exact ⟨i + 1, Nat.le_refl _, fun _ => by simpa using k, fun h => absurd h (Nat.lt_irrefl _)⟩
      · exact ⟨i, by omega, h2, fun _ => k⟩
theorem rn_some (key : Int → Int) : ∀ n : Nat, ∃ g : Nat → Int, Rn key g 0 n
  | 0 => ⟨fun _ => 0, fun p q _ h1 h2 => absurd h2 (Nat.not_lt_zero _), fun v => ⟨fun ⟨k, _, h, _⟩ => absurd h (Nat.not_lt_zero _), fun h => by omega⟩⟩
  | n + 1 => by
    obtain ⟨g, so, im⟩ := rn_some key n
    let f : Nat → Int := fun k => if k < n then g k else n
    have fl : ∀ k, k < n → f k = g k := fun k hk => if_pos hk
    have fn : f n = n := if_neg (Nat.lt_irrefl _)
    have bd : ∀ j, j < n → 0 ≤ f j ∧ f j < n := fun j hj => by
      have := (im (g j)).1 ⟨j, Nat.zero_le _, hj, rfl⟩
      rw [fl j hj]; omega
    have sf : So key f 0 n := so.like fun k _ hk => fl k hk
    have hd : ∀ j, j < n → lt key (f j) (f n) ∨ lt key (f n) (f j) := fun j hj => by
      have := bd j hj
      rw [fn]
      unfold lt
      omega
    obtain ⟨i, h1, h2, h3⟩ := spot f n hd n (Nat.le_refl _)
    have M := last_in (key := key) (f := f) (a := 0) (i := i) (m := n) (Nat.zero_le _) h1 h2 h3 sf
    have I : ∀ v, Im f 0 (n + 1) v ↔ ((0 : Nat) : Int) ≤ v ∧ v < ((n + 1 : Nat) : Int) := fun v => by
      constructor
      · rintro ⟨k, _, hk, rfl⟩
        by_cases c : k < n
        · have := bd k c; omega
        · obtain rfl : k = n := by omega
          rw [fn]; omega
      · intro hv
        by_cases c : v < n
        · obtain ⟨k, _, hk, e⟩ := (im v).2 ⟨by omega, c⟩
          exact ⟨k, Nat.zero_le _, by omega, by rw [fl k hk]; exact e⟩
        · exact ⟨n, Nat.zero_le _, by omega, by rw [fn]; omega⟩
    exact ⟨_, M.2.2, fun v => (M.2.1 v).trans (I v)⟩
end St
end Go.Proofs.Ytlbekdpmfjhjhaa
