/- Contracts of the exchanges and rotations inside slices.SortStableFunc, over a row of places: each leaves the row as plain arithmetic says, and all other memory as it was. Conditions: the ranges lie within the row and apart. -/
import Derived.Test.YtlbekdpmfjhjhaaFixA
import Derived.Test.YtlbekdpmfjhjhaaSortMath
import Derived.Sort.Row
import Derived.BigGuard
import Derived.BigCall
import Derived.CellFam
import Derived.Deep.Draws
import Derived.Deep.QuietTactic
import Derived.BigQuiet
import Derived.BigRegion
namespace Go.Proofs.Ytlbekdpmfjhjhaa
open Go.RowKit Go.Sort

/-- The row at blk, off holds f; all else is as in w, but for the draws. -/
def On (w : World) (blk off N : Nat) (f : Nat → Int) (W : World) : Prop := ∃ n d, d.size = N ∧ (fun t => (d : Array Int)[t]!) = f ∧ W = putRow (Value.int .i64) (Go.Sort.ahead w n) blk off d
/-- There is a row of N numbers. -/
def Ba (w : World) (blk off N : Nat) : Prop := ∃ d, (d : Array Int).size = N ∧ Holds (Value.int .i64) w blk off d

theorem On.cell {w W : World} {blk off N : Nat} {f : Nat → Int} (h : On w blk off N f W) (b : Ba w blk off N) : ∀ t, t < N → W.cell? ⟨blk, off + t, none⟩ = some (.int .i64 (f t)) := by
  obtain ⟨n, d, hd, rfl, rfl⟩ := h
  obtain ⟨d0, hs, hh⟩ := b
  exact fun t ht => cell?_putRow _ _ _ _ d0 d (holds_ahead _ _ _ _ _ _ hh) (by omega) t (by omega)
theorem On.froz {w W : World} {blk off N : Nat} {f : Nat → Int} (h : On w blk off N f W) (b : Ba w blk off N) : ∀ t, t < N → W.frozen? ⟨blk, off + t, none⟩ = false := by
  obtain ⟨n, d, hd, rfl, rfl⟩ := h
  obtain ⟨d0, hs, hh⟩ := b
  exact fun t ht => by rw [frozen?_putRow]; exact ((holds_ahead _ _ n _ _ _ hh) t (by omega)).2
theorem On.drewN {w W : World} {blk off N : Nat} {f : Nat → Int} (h : On w blk off N f W) (q : Nat) : On w blk off N f (W.drewN q) := by
  obtain ⟨n, d, hd, hf, rfl⟩ := h
  refine ⟨n + q, d, hd, hf, ?_⟩
  show Go.Sort.ahead (putRow (Value.int .i64) (Go.Sort.ahead w n) blk off d) q = _
  rw [putRow_ahead _ w n, ahead_ahead, ← putRow_ahead]
theorem fn_swp (d : Array Int) (i j : Nat) (hi : i < d.size) (hj : j < d.size) : (fun t => (swp d i j)[t]!) = St.sw i j (fun t => d[t]!) := by
  funext k
  unfold St.sw
  by_cases h1 : k = j
  · subst h1
    rw [if_pos rfl]
    exact swp_right d i k hj
  · rw [if_neg h1]
    by_cases h2 : k = i
    · subst h2
      rw [if_pos rfl]
      exact swp_left d k j hi h1
    · rw [if_neg h2]
      exact swp_other d i j k h2 h1
theorem On.swap {w W : World} {blk off N : Nat} {f : Nat → Int} (h : On w blk off N f W) {i j : Nat} (hi : i < N) (hj : j < N) :
    On w blk off N (St.sw i j f) ((W.setCell ⟨blk, off + i, none⟩ (.int .i64 (f j))).setCell ⟨blk, off + j, none⟩ (.int .i64 (f i))) := by
  obtain ⟨n, d, rfl, rfl, rfl⟩ := h
  exact ⟨n, swp d i j, size_swp d i j, fn_swp d i j hi hj, putRow_swp _ _ _ _ d i j hi hj⟩

set_option maxHeartbeats 1000000 in
theorem swap_any (w : World) (blk off N cap : Nat) (hB : Ba w blk off N) (hN : N < 4611686018427387904) (cv : Value) (a b n : Nat) (f : Nat → Int) (W : World) (hO : On w blk off N f W) (h1 : a + n ≤ b) (h2 : b + n ≤ N) :
    Calls Try.prog 52 #[.slice (some ⟨blk, off, none⟩) N cap, .int .i64 a, .int .i64 b, .int .i64 n, cv] W fun e w' => e = .returned (.tuple #[]) ∧ On w blk off N (St.swr a b n f) w' := by
  go_enter Try.func52, Try.ntmps52
  go_wp2
  go_loopw [10] (fun vi wr => ∃ i : Nat, vi = .int .i64 i ∧ i ≤ n ∧ On w blk off N (St.swr a b i f) wr) (fun vi _ => n - (intOf vi).toNat)
  case atStart => exact ⟨0, rfl, Nat.zero_le _, by rw [St.swr_none]; exact hO⟩
  case round =>
    obtain ⟨i, rfl, hi, hR⟩ := hrel
    have HO := Lib.hid hO
    clear hO
    by_cases hlt : i < n
    · have hc := hR.cell hB
      have hf := hR.froz hB
      obtain ⟨G, hG⟩ : ∃ G, G = St.swr a b i f := ⟨_, rfl⟩
      rw [← hG] at hc
      have S := Lib.hid (hR.swap (i := a + i) (j := b + i) (by omega) (by omega))
      clear hR
      go_wp2
      go_region
      all_goals go_wp2
      go_roundw
      case rel => exact ⟨i + 1, by go_num, by omega, by rw [← St.sw_range (by omega)]; exact S.out.drewN 1⟩
      case measure => simp [intOf]; omega
    · obtain rfl : i = n := by omega
      go_wp2
      go_end0
      exact ⟨rfl, hR⟩

theorem rot_stop {a m b i : Nat} {f g : Nat → Int} (h : St.rot (m - i) m (m + i) g = St.rot a m b f) (hi : i ≤ m) : St.swr (m - i) m i g = St.rot a m b f := by rw [St.rot_same g hi, h]
theorem rot_gt {a m b i j : Nat} {f g : Nat → Int} (h : St.rot (m - i) m (m + j) g = St.rot a m b f) (hi : i ≤ m) (hj : j < i) : St.rot (m - (i - j)) m (m + j) (St.swr (m - i) m j g) = St.rot a m b f := by rw [St.rot_more g hi hj, h]
theorem rot_lt {a m b i j : Nat} {f g : Nat → Int} (h : St.rot (m - i) m (m + j) g = St.rot a m b f) (hi : i ≤ m) (hj : i < j) : St.rot (m - i) m (m + (j - i)) (St.swr (m - i) (m + j - i) i g) = St.rot a m b f := by rw [St.rot_less g hi hj, h]

theorem swap_at (w : World) (blk off N cap : Nat) (hB : Ba w blk off N) (hN : N < 4611686018427387904) (cv : Value) (va vb vn : Int) (a b n : Nat) (ea : va = a) (eb : vb = b) (en : vn = n) (f : Nat → Int) (W : World) (hO : On w blk off N f W) (h1 : a + n ≤ b) (h2 : b + n ≤ N) :
    Calls Try.prog 52 #[.slice (some ⟨blk, off, none⟩) N cap, .int .i64 va, .int .i64 vb, .int .i64 vn, cv] W fun e w' => e = .returned (.tuple #[]) ∧ On w blk off N (St.swr a b n f) w' := by
  subst ea eb en
  exact swap_any w blk off N cap hB hN cv a b n f W hO h1 h2
set_option maxHeartbeats 1000000 in
theorem rotate_any (w : World) (blk off N cap : Nat) (hB : Ba w blk off N) (hN : N < 4611686018427387904) (cv : Value) (a m b : Nat) (f : Nat → Int) (W : World) (hO : On w blk off N f W) (h1 : a < m) (h2 : m < b) (h3 : b ≤ N) :
    Calls Try.prog 51 #[.slice (some ⟨blk, off, none⟩) N cap, .int .i64 a, .int .i64 m, .int .i64 b, cv] W fun e w' => e = .returned (.tuple #[]) ∧ On w blk off N (St.rot a m b f) w' := by
  go_enter Try.func51, Try.ntmps51
  go_wp2
  go_loopw [10, 11] (fun vi vj wr => ∃ (i j : Nat) (g : Nat → Int), vi = .int .i64 i ∧ vj = .int .i64 j ∧ 0 < i ∧ i ≤ m ∧ 0 < j ∧ m + j ≤ N ∧ On w blk off N g wr ∧ St.rot (m - i) m (m + j) g = St.rot a m b f) (fun vi vj _ => (intOf vi).toNat + (intOf vj).toNat)
  case atStart =>
    refine ⟨m - a, b - m, f, ?_, ?_, by omega, by omega, by omega, by omega, hO, ?_⟩
    · congr 1; omega
    · congr 1; omega
    · rw [show m - (m - a) = a by omega, show m + (b - m) = b by omega]
  case round =>
    obtain ⟨i, j, g, rfl, rfl, hi0, him, hj0, hjn, hR, hg⟩ := hrel
    have HG := Lib.hid hg
    clear hg hO
    rcases Nat.lt_trichotomy j i with hlt | hlt | hlt
    · have hne : i ≠ j := by omega
      go_wp2_with fail
      refine (swap_at w blk off N cap hB hN cv _ _ _ (m - i) m j (by omega) rfl rfl g _ hR (by omega) (by omega)).mono ?_; rintro e w1 ⟨rfl, hR1⟩
      go_wp2_with fail
      go_roundw
      case rel => exact ⟨i - j, j, _, by congr 1; omega, rfl, by omega, by omega, by omega, hjn, hR1, rot_gt HG.out him hlt⟩
      case measure => simp [intOf]; omega
    · subst hlt
      go_wp2_with fail
      refine (swap_at w blk off N cap hB hN cv _ _ _ (m - j) m j (by omega) rfl rfl g _ hR (by omega) (by omega)).mono ?_; rintro e w1 ⟨rfl, hR1⟩
      go_wp2_with fail
      go_end0
      refine ⟨rfl, ?_⟩
      rw [← rot_stop HG.out him]
      exact hR1
    · have hne : i ≠ j := by omega
      have hng : ¬ j < i := by omega
      go_wp2_with fail
      refine (swap_at w blk off N cap hB hN cv _ _ _ (m - i) (m + j - i) i (by omega) (by omega) rfl g _ hR (by omega) (by omega)).mono ?_; rintro e w1 ⟨rfl, hR1⟩
      go_wp2_with fail
      go_roundw
      case rel => exact ⟨i, j - i, _, rfl, by congr 1; omega, hi0, him, by omega, by omega, hR1, rot_lt HG.out him hlt⟩
      case measure => simp [intOf]; omega
end Go.Proofs.Ytlbekdpmfjhjhaa
