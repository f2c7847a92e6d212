/- Contracts of the symmetric merge inside slices.SortStableFunc, where one of the two runs is one element: it goes to its place. Conditions: both runs are in order and lie within the row, the right one's numbers above the left one's. -/
import Derived.Test.YtlbekdpmfjhjhaaSortB
namespace Go.Proofs.Ytlbekdpmfjhjhaa
open Go.RowKit Go.Sort

set_option maxRecDepth 100000 in
set_option maxHeartbeats 1000000 in
theorem sym_first (w : World) (blk off N cap K : Nat) (hB : Ba w blk off N) (hN : N < 4611686018427387904) (key : Int → Int) (q : Addr) (C : Cp w blk off N key K q) (a b : Nat) (f : Nat → Int) (W : World) (hO : On w blk off N f W)
    (hA : Al N K f) (h1 : a + 1 < b) (h2 : b ≤ N) (hS : St.So key f (a + 1) b) (hC : St.Cr f a (a + 1) b) (vm : Int) (hm : vm = a + 1) :
    Calls Try.prog 50 #[.slice (some ⟨blk, off, none⟩) N cap, .int .i64 a, .int .i64 vm, .int .i64 b, .func (.func 42) #[] #[.pointer (some q)]] W fun e w' => e = .returned (.tuple #[]) ∧ ∃ g, On w blk off N g w' ∧ St.Mg key f g a b := by
  have HS := Lib.hid hS
  have HC := Lib.hid hC
  clear hS hC
  go_enter Try.func50, Try.ntmps50
  go_wp2
  go_loopw [10, 11] (fun vi vj wr => ∃ i j : Nat, vi = .int .i64 i ∧ vj = .int .i64 j ∧ a + 1 ≤ i ∧ i ≤ j ∧ j ≤ b ∧ On w blk off N f wr ∧ (a + 1 < i → St.lt key (f (i - 1)) (f a)) ∧ (j < b → St.lt key (f a) (f j))) (fun vi vj _ => (intOf vj).toNat - (intOf vi).toNat)
  case atStart => exact ⟨a + 1, b, by go_num, rfl, by omega, by omega, by omega, hO, fun h => absurd h (Nat.lt_irrefl _), fun h => absurd h (Nat.lt_irrefl _)⟩
  case round =>
    obtain ⟨i, j, rfl, rfl, hai, hij, hjb, hR, hi, hj⟩ := hrel
    clear hO
    by_cases hlt : i < j
    · obtain ⟨h, hh⟩ : ∃ h : Nat, ((i : Int) + j) / 2 = h := ⟨(i + j) / 2, by omega⟩
      have l1 : i ≤ h := by omega
      have l2 : h < j := by omega
      have hc := hR.cell hB
      obtain ⟨c, hcm⟩ : ∃ c, cm key (f h) (f a) = c := ⟨_, rfl⟩
      have hcb := cm_bd key (f h) (f a)
      have CC := Lib.hid fun n => cp_call C hR hA n (i := h) (j := a) (by omega) (by omega) hcm
      have LT := Lib.hid (cm_lt (key := key) (x := f h) (y := f a))
      rw [hcm] at hcb LT
      clear hcm
      have HJ := Lib.hid hj
      have HI := Lib.hid hi
      have HR := Lib.hid hR
      clear hi hj hR
      cases hk : decide (c < 0)
      · have L := Lib.hid (St.lt_no (key := key) (HC.out a h (Nat.le_refl _) (by omega) (by omega) (by omega)) fun h4 => by
          have := LT.out.2 h4
          simp at hk
          omega)
        go_wp2
        go_quiet (first | (go_at_call 42; exact CC.out _))
        go_wp2
        go_roundw
        case rel => exact ⟨i, h, rfl, rfl, by omega, by omega, by omega, HR.out.drewN _, HI.out, fun _ => L.out⟩
        case measure => simp [intOf]; omega
      · have L := Lib.hid (St.lt_yes (key := key) (LT.out.1 (of_decide_eq_true hk)))
        go_wp2
        go_quiet (first | (go_at_call 42; exact CC.out _))
        go_wp2
        go_roundw
        case rel => exact ⟨h + 1, j, by go_num, rfl, by omega, by omega, by omega, HR.out.drewN _, fun _ => L.out, HJ.out⟩
        case measure => simp [intOf]; omega
    · obtain rfl : i = j := by omega
      have M := Lib.hid (St.first_in hai hjb hj hi HS.out)
      clear hi hj
      go_wp2
      go_loopw [13] (fun vk wr2 => ∃ k : Nat, vk = .int .i64 k ∧ a ≤ k ∧ k + 1 ≤ i ∧ On w blk off N (St.rot a (a + 1) (k + 1) f) wr2) (fun vk _ => i - (intOf vk).toNat)
      case atStart => exact ⟨a, rfl, Nat.le_refl _, hai, by rw [St.rot_none2]; exact hR⟩
      case round =>
        obtain ⟨k, rfl, hak, hki, hR2⟩ := hrel
        clear hR
        by_cases hlt2 : k < i - 1
        · obtain ⟨G, hG⟩ : ∃ G, St.rot a (a + 1) (k + 1) f = G := ⟨_, rfl⟩
          have E := Lib.hid (St.sw_up (f := f) hak)
          rw [hG] at hR2 E
          clear hG
          have hc := hR2.cell hB
          have hf := hR2.froz hB
          have S := Lib.hid (hR2.swap (i := k) (j := k + 1) (by omega) (by omega))
          clear hR2
          go_wp2
          go_region
          all_goals go_wp2
          go_roundw
          case rel => exact ⟨k + 1, by go_num, by omega, by omega, by rw [← E.out]; exact S.out.drewN 1⟩
          case measure => simp [intOf]; omega
        · go_wp2
          (try simp only [Exit.inBlock, Exit.then])
          refine bodyPost_ret (results_none rfl _ _ _) rfl ?_
          refine ⟨rfl, _, hR2, ?_⟩
          rw [show k + 1 = i by omega]
          exact M.out

set_option maxRecDepth 100000 in
set_option maxHeartbeats 1000000 in
theorem sym_last (w : World) (blk off N cap K : Nat) (hB : Ba w blk off N) (hN : N < 4611686018427387904) (key : Int → Int) (q : Addr) (C : Cp w blk off N key K q) (a m : Nat) (f : Nat → Int) (W : World) (hO : On w blk off N f W)
    (hA : Al N K f) (h1 : a + 1 < m) (h2 : m + 1 ≤ N) (hS : St.So key f a m) (hC : St.Cr f a m (m + 1)) (vb : Int) (hb : vb = m + 1) :
    Calls Try.prog 50 #[.slice (some ⟨blk, off, none⟩) N cap, .int .i64 a, .int .i64 m, .int .i64 vb, .func (.func 42) #[] #[.pointer (some q)]] W fun e w' => e = .returned (.tuple #[]) ∧ ∃ g, On w blk off N g w' ∧ St.Mg key f g a (m + 1) := by
  have HS := Lib.hid hS
  have HC := Lib.hid hC
  clear hS hC
  have hne : ¬ ((m : Int) - a = 1) := by omega
  go_enter Try.func50, Try.ntmps50
  go_wp2
  go_loopw [14, 15] (fun vi vj wr => ∃ i j : Nat, vi = .int .i64 i ∧ vj = .int .i64 j ∧ a ≤ i ∧ i ≤ j ∧ j ≤ m ∧ On w blk off N f wr ∧ (a < i → St.lt key (f (i - 1)) (f m)) ∧ (j < m → St.lt key (f m) (f j))) (fun vi vj _ => (intOf vj).toNat - (intOf vi).toNat)
  case atStart => exact ⟨a, m, rfl, rfl, by omega, by omega, by omega, hO, fun h => absurd h (Nat.lt_irrefl _), fun h => absurd h (Nat.lt_irrefl _)⟩
  case round =>
    obtain ⟨i, j, rfl, rfl, hai, hij, hjb, hR, hi, hj⟩ := hrel
    clear hO
    by_cases hlt : i < j
    · obtain ⟨h, hh⟩ : ∃ h : Nat, ((i : Int) + j) / 2 = h := ⟨(i + j) / 2, by omega⟩
      have l1 : i ≤ h := by omega
      have l2 : h < j := by omega
      have hc := hR.cell hB
      obtain ⟨c, hcm⟩ : ∃ c, cm key (f m) (f h) = c := ⟨_, rfl⟩
      have hcb := cm_bd key (f m) (f h)
      have CC := Lib.hid fun n => cp_call C hR hA n (i := m) (j := h) (by omega) (by omega) hcm
      have LT := Lib.hid (cm_lt (key := key) (x := f m) (y := f h))
      rw [hcm] at hcb LT
      clear hcm
      have HJ := Lib.hid hj
      have HI := Lib.hid hi
      have HR := Lib.hid hR
      clear hi hj hR
      cases hk : decide (c < 0)
      · have L := Lib.hid (St.lt_no (key := key) (HC.out h m (by omega) (by omega) (Nat.le_refl _) (by omega)) fun h4 => by
          have := LT.out.2 h4
          simp at hk
          omega)
        go_wp2
        go_quiet (first | (go_at_call 42; exact CC.out _))
        go_wp2
        go_roundw
        case rel => exact ⟨h + 1, j, by go_num, rfl, by omega, by omega, by omega, HR.out.drewN _, fun _ => L.out, HJ.out⟩
        case measure => simp [intOf]; omega
      · have L := Lib.hid (St.lt_yes (key := key) (LT.out.1 (of_decide_eq_true hk)))
        go_wp2
        go_quiet (first | (go_at_call 42; exact CC.out _))
        go_wp2
        go_roundw
        case rel => exact ⟨i, h, rfl, rfl, by omega, by omega, by omega, HR.out.drewN _, HI.out, fun _ => L.out⟩
        case measure => simp [intOf]; omega
    · obtain rfl : i = j := by omega
      have M := Lib.hid (St.last_in hai hjb hi hj HS.out)
      clear hi hj
      go_wp2
      go_loopw [17] (fun vk wr2 => ∃ k : Nat, vk = .int .i64 k ∧ i ≤ k ∧ k ≤ m ∧ On w blk off N (St.rot k m (m + 1) f) wr2) (fun vk _ => (intOf vk).toNat)
      case atStart => exact ⟨m, rfl, hjb, Nat.le_refl _, by rw [St.rot_none1 _ _ _ (by omega)]; exact hR⟩
      case round =>
        obtain ⟨k, rfl, hik, hkm, hR2⟩ := hrel
        clear hR
        by_cases hlt2 : i < k
        · obtain ⟨G, hG⟩ : ∃ G, St.rot k m (m + 1) f = G := ⟨_, rfl⟩
          have E := Lib.hid (St.sw_down (f := f) (k := k - 1) (m := m) (by omega))
          rw [show k - 1 + 1 = k by omega] at E
          rw [hG] at hR2 E
          clear hG
          have hc := hR2.cell hB
          have hf := hR2.froz hB
          have S := Lib.hid (hR2.swap (i := k) (j := k - 1) (by omega) (by omega))
          clear hR2
          go_wp2
          go_region
          all_goals go_wp2
          go_roundw
          case rel => exact ⟨k - 1, by congr 1; omega, by omega, by omega, by rw [← E.out]; exact S.out.drewN 1⟩
          case measure => simp [intOf]; omega
        · go_wp2
          (try simp only [Exit.inBlock, Exit.then])
          refine bodyPost_ret (results_none rfl _ _ _) rfl ?_
          refine ⟨rfl, _, hR2, ?_⟩
          rw [show k = i by omega]
          exact M.out
end Go.Proofs.Ytlbekdpmfjhjhaa
