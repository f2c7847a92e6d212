/- The contract of the program's own reading of a number. -/
import Derived.Test.YtehmheohojnpmaaNv
import Derived.Test.YtehmheohojnpmaaRf
namespace Go.Proofs.Ytehmheohojnpmaa
open Go.RowKit

theorem ld_least : ∀ (bs : List Int) (k : Nat), k ≤ bs.length → (∀ t, t < k → 128 ≤ bs.getD t 0) → k ≤ ld bs
  | _, 0, _, _ => Nat.zero_le _
  | [], k + 1, h, _ => by simp at h
  | x :: l, k + 1, h, hp => by
    have h0 := hp 0 (by omega)
    simp at h0
    simp only [ld]
    rw [if_pos h0]
    have := ld_least l k (by simp at h; omega) (fun t ht => by have := hp (t + 1) (by omega); simpa [List.getD] using this)
    omega
theorem acc_eq {bs : List Int} {k : Nat} (h : k < bs.length) : dv (bs.take (k + 1)) = dv (bs.take k) + bs.getD k 0 % 128 * 2 ^ (7 * k) := by
  have e : bs.getD k 0 = bs[k] := by simp [List.getD, h]
  have p : (2 : Int) ^ (7 * k) = 128 ^ k := by rw [Int.pow_mul]; rfl
  rw [List.take_succ_eq_append_getElem h, dv_snoc, e, p, List.length_take, Nat.min_eq_left (by omega), Int.mul_comm]
theorem acc_step {bs : List Int} {k : Nat} {x v : Int} (h : k < bs.length) (h9 : k ≤ 9) (hx : bs.getD k 0 = x) (hv : dv (bs.take k) = v) (h0 : 0 ≤ x) (h1 : k = 9 → x ≤ 1) :
    IntKind.u64.wrap (v + IntKind.u64.wrap (x % 128 * 2 ^ (7 * k))) = dv (bs.take (k + 1)) := by
  have e := acc_eq h
  have b := dv_word h h9 (fun c => by subst c; rw [hx]; exact ⟨h0, h1 rfl⟩)
  have p := dv_nonneg (bs.take k)
  have q : (0 : Int) ≤ x % 128 * 2 ^ (7 * k) := Int.mul_nonneg (by omega) (Int.le_of_lt (Int.pow_pos (by decide)))
  rw [hx, hv] at e
  rw [hv] at p
  rw [e] at b ⊢
  generalize x % 128 * 2 ^ (7 * k) = y at *
  rw [IntKind.wrap_u64, IntKind.wrap_u64]
  omega
/-- The loop's end, in the plain reading's words. -/
theorem rd_end {bs : List Int} {k : Nat} {x : Int} (h : k < bs.length) (h9 : k ≤ 9) (hp : ∀ t, t < k → 128 ≤ bs.getD t 0) (hx : bs.getD k 0 = x) (h128 : x < 128) (h1 : k = 9 → x ≤ 1) (h0 : 0 < k → x ≠ 0) : rdN bs = (dv (bs.take (k + 1)), k + 1, 0) := by
  have E := ld_eq (bs := bs) (k := k) hp (by omega) (fun _ => by rw [hx]; exact h128)
  unfold rdN
  rw [if_neg (by omega), if_neg, E]
  rw [E, hx]
  rintro (c | ⟨c1, c2⟩ | ⟨c1, c2⟩)
  · omega
  · rw [← c1, hx] at c2
    have := h1 c1
    omega
  · exact h0 c1 c2
theorem rd_zero {bs : List Int} {k : Nat} (h : k < bs.length) (hp : ∀ t, t < k → 128 ≤ bs.getD t 0) (hx : bs.getD k 0 = 0) (h0 : 0 < k) : rdN bs = (0, 0, 5) := by
  have E := ld_eq (bs := bs) (k := k) hp (by omega) (fun _ => by rw [hx]; decide)
  unfold rdN
  rw [if_neg (by omega), if_pos]
  rw [E, hx]
  exact .inr (.inr ⟨h0, rfl⟩)
theorem rd_nine {bs : List Int} {x : Int} (h : 9 < bs.length) (hp : ∀ t, t < 9 → 128 ≤ bs.getD t 0) (hx : bs.getD 9 0 = x) (h1 : 1 < x) : rdN bs = (0, 0, 5) := by
  by_cases c : x < 128
  · have E := ld_eq (bs := bs) (k := 9) hp (by omega) (fun _ => by rw [hx]; exact c)
    unfold rdN
    rw [if_neg (by omega), if_pos]
    rw [E, hx]
    exact .inr (.inl ⟨rfl, h1⟩)
  · have g : 10 ≤ ld bs := ld_least bs 10 (by omega) (fun t ht => by
      rcases Nat.lt_succ_iff_lt_or_eq.1 ht with h2 | rfl
      · exact hp t h2
      · rw [hx]; omega)
    unfold rdN
    split
    · rfl
    · rw [if_pos (.inl (by omega))]

set_option maxRecDepth 100000 in
set_option maxHeartbeats 2000000 in
theorem leading_any (n c : Nat) (A : Option Addr) (bs : List Int) (w : World) (h : RdB w A n bs) (hy : By bs) (hn : n ≤ 200000) :
    Calls Try.prog 45 #[.slice A n c] w fun e w' => NatE bs w e w' := by
  have hl := h.1
  have HH := Lib.hid h
  have HY := Lib.hid hy
  have HL := Lib.hid hl
  clear h hy hl
  go_enter Try.func45, Try.ntmps45
  go_wp2_with fail
  go_loop [5, 6, 7, 10] (fun a _ _ i => ∃ k : Nat, k ≤ n ∧ k ≤ 9 ∧ i = .int .i64 k ∧ a = .int .u64 (dv (bs.take k)) ∧ ∀ t, t < k → 128 ≤ bs.getD t 0) (fun _ _ _ i => n - (intOf i).toNat)
  case atStart => exact ⟨0, Nat.zero_le _, Nat.zero_le _, rfl, rfl, fun t ht => absurd ht (Nat.not_lt_zero t)⟩
  case round =>
    obtain ⟨k, hk, h9, rfl, rfl, hp⟩ := hrel
    have HP := Lib.hid hp
    clear hp
    by_cases hlt : k < n
    case neg =>
      obtain rfl : k = n := by omega
      have E := ld_eq (bs := bs) (k := k) HP.out (by rw [HL.out]; exact Nat.le_refl _) (fun c => by rw [HL.out] at c; omega)
      have R : rdN bs = (0, 0, 4) := by unfold rdN; rw [E, if_pos (by rw [HL.out]; exact Nat.le_refl _), if_neg (by omega)]
      have HRD := Lib.hid R
      clear R E
      go_wp2
      go_ret3
      unfold NatE
      rw [HRD.out]
      exact ⟨rfl, rfl⟩
    case pos =>
      obtain ⟨b, o, rfl, hc⟩ := HH.out.2 (by omega)
      have hcell := hc k hlt
      have hyk : 0 ≤ bs.getD k 0 ∧ bs.getD k 0 ≤ 255 := HY.out _ (by
        have h3 : k < bs.length := by rw [HL.out]; exact hlt
        rw [show bs.getD k 0 = bs[k] from by simp [List.getD, h3]]
        exact List.getElem_mem _)
      obtain ⟨x, hx⟩ : ∃ x, bs.getD k 0 = x := ⟨_, rfl⟩
      rw [hx] at hcell hyk
      have HX := Lib.hid hx
      obtain ⟨v, hv⟩ : ∃ v, dv (bs.take k) = v := ⟨_, rfl⟩
      rw [hv]
      clear hc hx
      have hkl : k < bs.length := by rw [HL.out]; exact hlt
      by_cases k9 : k = 9
      · subst k9
        have hcell9 : w.cell? ⟨b, o + 9, none⟩ = some (.int .u8 x) := hcell
        by_cases x1 : 1 < x
        · have HRD := Lib.hid (rd_nine hkl HP.out HX.out x1)
          clear hkl hv
          go_wp2
          go_ret3
          unfold NatE
          rw [HRD.out]
          exact ⟨rfl, rfl⟩
        · by_cases x0 : x = 0
          · subst x0
            have HRD := Lib.hid (rd_zero hkl HP.out HX.out (by omega))
            clear hkl hv
            go_wp2
            go_ret3
            unfold NatE
            rw [HRD.out]
            exact ⟨rfl, rfl⟩
          · obtain rfl : x = 1 := by omega
            have HRD := Lib.hid (rd_end hkl h9 HP.out HX.out (by decide) (fun _ => by decide) (fun _ => by decide))
            have HA := Lib.hid (acc_step hkl h9 HX.out hv (by decide) (fun _ => by decide))
            have hb := dv_lt (bs.take 9)
            have hb0 := dv_nonneg (bs.take 9)
            rw [hv, show (bs.take 9).length = 9 by rw [List.length_take]; omega, show (128 : Int) ^ 9 = 9223372036854775808 by decide] at hb
            rw [hv] at hb0
            clear hkl hv x0 x1
            go_wp2
            go_ret3
            unfold NatE
            rw [HRD.out, ← HA.out]
            refine ⟨?_, rfl⟩
            rw [show IntKind.u64.wrap (v + IntKind.u64.wrap (1 % 128 * 2 ^ (7 * 9))) = v + 9223372036854775808 by rw [IntKind.wrap_u64, IntKind.wrap_u64]; omega]
            go_num
      · have hk9 : decide ((k : Int) = 9) = false := decide_eq_false (by omega)
        have hk9' : ((k : Int) == 9) = false := by simp; omega
        have HA := Lib.hid (acc_step hkl h9 HX.out hv hyk.1 (fun c => absurd c k9))
        by_cases h128 : 128 ≤ x
        · clear hkl hv
          go_wp2
          go_round
          case rel => exact ⟨k + 1, hlt, by omega, by go_num, by rw [HA.out], fun t ht => by
            rcases Nat.lt_succ_iff_lt_or_eq.1 ht with h1 | rfl
            · exact HP.out t h1
            · rw [HX.out]; exact h128⟩
          case measure => simp [intOf]; omega
        · by_cases x0 : x = 0
          · subst x0
            by_cases k0 : k = 0
            · subst k0
              have hcell0 : w.cell? ⟨b, o, none⟩ = some (.int .u8 0) := hcell
              have HRD := Lib.hid (rd_end hkl h9 HP.out HX.out (by decide) (fun _ => by decide) (fun c => absurd c (Nat.lt_irrefl 0)))
              obtain rfl : v = 0 := hv.symm
              clear hkl hv
              go_wp2
              go_ret3
              unfold NatE
              rw [HRD.out, ← HA.out]
              exact ⟨rfl, rfl⟩
            · have HRD := Lib.hid (rd_zero hkl HP.out HX.out (by omega))
              have hk0 : 0 < k := by omega
              clear hkl hv
              go_wp2
              go_ret3
              unfold NatE
              rw [HRD.out]
              exact ⟨rfl, rfl⟩
          · have hx0 : decide (x = 0) = false := decide_eq_false x0
            have hx0' : (x == 0) = false := by simpa using x0
            have HRD := Lib.hid (rd_end hkl h9 HP.out HX.out (by omega) (fun c => absurd c k9) (fun _ => x0))
            clear hkl hv
            go_wp2
            go_ret3
            unfold NatE
            rw [HRD.out, ← HA.out]
            exact ⟨rfl, rfl⟩
end Go.Proofs.Ytehmheohojnpmaa
