/- The contract of the comparison that fixnum's parts hands to slices.SortStableFunc: it tells the order of two places' rests, the greater ones first, and only reads. Conditions: both are places of the rests, which lie apart from the row that is sorted. -/
import Derived.Test.YtlbekdpmfjhjhaaSortE
namespace Go.Proofs.Ytlbekdpmfjhjhaa
open Go.RowKit Go.Sort

theorem nan_any (x : Int) (w : World) : Calls Try.prog 47 #[.int .u64 x] w fun e w' => e = .returned (.bool false) ∧ w' = w := by
  go_enter Try.func47, Try.ntmps47
  go_wp2
  go_ret
  exact ⟨rfl, rfl⟩
theorem cmp_any (x y : Int) (w : World) : Calls Try.prog 43 #[.int .u64 x, .int .u64 y] w fun e w' => e = .returned (.int .i64 (if x < y then -1 else if y < x then 1 else 0)) ∧ w' = w := by
  go_enter Try.func43, Try.ntmps43
  by_cases h1 : x < y
  · rw [if_pos h1]
    go_wp2_with (go_at_call 47; refine (nan_any _ _).mono ?_; rintro e w1 ⟨rfl, rfl⟩)
    go_ret
    exact ⟨rfl, rfl⟩
  · rw [if_neg h1]
    by_cases h2 : y < x
    · rw [if_pos h2]
      go_wp2_with (go_at_call 47; refine (nan_any _ _).mono ?_; rintro e w1 ⟨rfl, rfl⟩)
      go_ret
      exact ⟨rfl, rfl⟩
    · rw [if_neg h2]
      go_wp2_with (go_at_call 47; refine (nan_any _ _).mono ?_; rintro e w1 ⟨rfl, rfl⟩)
      go_ret
      exact ⟨rfl, rfl⟩

theorem less_at (key : Int → Int) (K b2 cap2 : Nat) (g : Nat) (W : World) (hq : W.cell? ⟨g, 0, none⟩ = some (.slice (some ⟨b2, 0, none⟩) K cap2)) (hc : ∀ j, j < K → W.cell? ⟨b2, 0 + j, none⟩ = some (.int .u64 (key j))) (x y : Nat) (hx : x < K) (hy : y < K) :
    Calls Try.prog 42 #[.int .i64 x, .int .i64 y, .pointer (some ⟨g, 0, none⟩)] W fun e w' => e = .returned (.int .i64 (cm key x y)) ∧ ∃ m, w' = W.drewN m := by
  have hcx := hc x hx
  have hcy := hc y hy
  rw [Nat.zero_add] at hcx hcy
  clear hc
  obtain ⟨kx, ex⟩ : ∃ z, key x = z := ⟨_, rfl⟩
  obtain ⟨ky, ey⟩ : ∃ z, key y = z := ⟨_, rfl⟩
  unfold cm
  rw [ex, ey]
  rw [ex] at hcx
  rw [ey] at hcy
  obtain ⟨c, hcc⟩ : ∃ c : Int, (if ky < kx then -1 else if kx < ky then 1 else 0) = c := ⟨_, rfl⟩
  rw [hcc]
  have CC : ∀ w, Calls Try.prog 43 #[.int .u64 ky, .int .u64 kx] w fun e w' => e = .returned (.int .i64 c) ∧ w' = w := fun w => by
    rw [← hcc]; exact cmp_any ky kx w
  have HC := Lib.hid CC
  clear CC hcc ex ey
  go_enter Try.func42, Try.ntmps42
  go_wp2
  go_quiet (first | (go_at_call 43; refine Calls.quiet_of_same (HC.out _)))
  go_wp2
  go_ret
  exact ⟨rfl, _, rfl⟩

/-- The comparison, wherever the row is. -/
theorem cp_any (w : World) (blk off N K b2 cap2 g : Nat) (key : Int → Int) (h1 : g ≠ blk) (h2 : b2 ≠ blk) (hq : w.cell? ⟨g, 0, none⟩ = some (.slice (some ⟨b2, 0, none⟩) K cap2)) (hc : ∀ j, j < K → w.cell? ⟨b2, 0 + j, none⟩ = some (.int .u64 (key j))) :
    Cp w blk off N key K ⟨g, 0, none⟩ := by
  intro f W hO x y hx hxK hy hyK
  obtain ⟨n, d, hd, hf, rfl⟩ := hO
  obtain ⟨x, rfl⟩ := Int.eq_ofNat_of_zero_le hx
  obtain ⟨y, rfl⟩ := Int.eq_ofNat_of_zero_le hy
  refine less_at key K b2 cap2 g _ ?_ (fun j hj => ?_) x y (by omega) (by omega)
  · rw [cell?_putRow_other _ _ _ _ _ _ (.inl h1), cell?_ahead]; exact hq
  · rw [cell?_putRow_other _ _ _ _ _ _ (.inl h2), cell?_ahead]; exact hc j hj
end Go.Proofs.Ytlbekdpmfjhjhaa
