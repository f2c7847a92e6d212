/- Contracts of the document's plain sums (CRC-32). -/
import Derived.Test.YtknmchpikcnacaaCm
import Derived.Test.YtknmchpikcnacaaPt
import Derived.Laws.BitsAllLaws
namespace Go.Proofs.Ytknmchpikcnacaa
open Go.RowKit

theorem par_cast (r v j : Nat) : ((r : Int) % 2 != (v : Int) / 2 ^ j % 2) = !(decide (r % 2 = 1) == v.testBit j) := by
  have e1 : (v : Int) / 2 ^ j % 2 = ((v / 2 ^ j % 2 : Nat) : Int) := by simp
  have e2 : (r : Int) % 2 = ((r % 2 : Nat) : Int) := by simp
  rw [e1, e2, Cr.bit_at]
  rcases Nat.mod_two_eq_zero_or_one r with a | a <;> rcases Nat.mod_two_eq_zero_or_one (v / 2 ^ j) with b | b <;> rw [a, b] <;> decide
theorem step_eq {r v j : Nat} (h : ((r : Int) % 2 != (v : Int) / 2 ^ j % 2) = false) : Cr.step r (v.testBit j) = r / 2 := by
  rw [par_cast] at h
  unfold Cr.step
  rw [if_pos (by simpa using h)]
theorem step_ne {r v j : Nat} (h : ((r : Int) % 2 != (v : Int) / 2 ^ j % 2) = true) : Cr.step r (v.testBit j) = r / 2 ^^^ Cr.P := by
  rw [par_cast] at h
  unfold Cr.step
  rw [if_neg (by simpa using h)]
theorem xor_u32 (a b : Nat) (ha : a < 4294967296) (hb : b < 4294967296) : bits .xor .u32 (a : Int) (b : Int) = ((a ^^^ b : Nat) : Int) := by
  have := u32_xor (a : Int) (b : Int) (by omega) (by omega) (by omega) (by omega)
  simpa using this

set_option maxRecDepth 100000 in
theorem rsteps_any (x n c : Nat) (A : Option Addr) (bs : List Int) (w : World) (hx : x < 4294967296) (h : RdB w A n bs) (hy : By bs) (hn : n ≤ 1000000) :
    Calls Try.prog 18 #[.int .u32 x, .slice A n c] w fun e w' => e = .returned (.int .u32 (Cr.st x bs)) ∧ w = w' := by
  have hl := h.1
  have HH := Lib.hid h
  have HY := Lib.hid hy
  have HL := Lib.hid hl
  clear h hy hl
  go_enter Try.func18, Try.ntmps18
  go_wp2_with fail
  go_loop [0, 5, 6, 7] (fun r i _ _ => ∃ k : Nat, k ≤ 8 * n ∧ i = .int .i64 k ∧ r = .int .u32 (Cr.run x (Cr.bt bs) k)) (fun _ i _ _ => 8 * n - (intOf i).toNat)
  case atStart => exact ⟨0, Nat.zero_le _, rfl, rfl⟩
  case round =>
    obtain ⟨k, hk, rfl, rfl⟩ := hrel
    by_cases hlt : k < 8 * n
    case neg =>
      obtain rfl : k = 8 * n := by omega
      go_wp2
      go_ret
      refine ⟨?_, rfl⟩
      unfold Cr.st
      rw [HL.out]
      rfl
    case pos =>
      obtain ⟨b, o, rfl, hc⟩ := HH.out.2 (by omega)
      have hcell := hc (k / 8) (by omega)
      have hr := Cr.run_lt hx (Cr.bt bs) k
      have hyk : 0 ≤ bs.getD (k / 8) 0 ∧ bs.getD (k / 8) 0 ≤ 255 := HY.out _ (by
        have h3 : k / 8 < bs.length := by rw [HL.out]; omega
        rw [show bs.getD (k / 8) 0 = bs[k / 8] from by simp [List.getD, h3]]
        exact List.getElem_mem _)
      obtain ⟨v, hv⟩ : ∃ v : Nat, bs.getD (k / 8) 0 = v := ⟨_, (Int.toNat_of_nonneg hyk.1).symm⟩
      have hs : Cr.run x (Cr.bt bs) (k + 1) = Cr.step (Cr.run x (Cr.bt bs) k) (v.testBit (k % 8)) := by
        show Cr.step (Cr.run x (Cr.bt bs) k) (Cr.bt bs k) = _
        unfold Cr.bt
        rw [hv, Int.toNat_natCast]
      rw [hv] at hcell hyk
      obtain ⟨r, hre⟩ : ∃ r, Cr.run x (Cr.bt bs) k = r := ⟨_, rfl⟩
      rw [hre] at hr hs ⊢
      have HS := Lib.hid hs
      clear hc hv hre hs
      obtain ⟨β, hβ⟩ : ∃ β, ((r : Int) % 2 != (v : Int) / 2 ^ (k % 8) % 2) = β := ⟨_, rfl⟩
      cases β
      · go_wp2_with fail
        go_round
        case rel => exact ⟨k + 1, hlt, by go_num, by rw [HS.out, step_eq hβ]; go_num⟩
        case measure => simp [intOf]; omega
      · have hX := xor_u32 (r / 2) Cr.P (by omega) (by decide)
        rw [show ((r / 2 : Nat) : Int) = (r : Int) / 2 by omega, show ((Cr.P : Nat) : Int) = 3988292384 from rfl] at hX
        go_wp2_with fail
        go_round
        case rel => exact ⟨k + 1, hlt, by go_num, by rw [HS.out, step_ne hβ]⟩
        case measure => simp [intOf]; omega
end Go.Proofs.Ytknmchpikcnacaa
