/- Contracts of fixnum.Sum and fixnum.Add: each returns the true sum, or tells that it does not fit in 64 bits. Conditions: the numbers are int64; the list is shorter than 2^60. -/
import Derived.Test.YtlbekdpmfjhjhaaFixA
namespace Go.Proofs.Ytlbekdpmfjhjhaa
open Go.RowKit

/-- Whether the whole sum does not fit, as Sum asks it. -/
theorem sum_bad (S : Int) (h1 : -100000000000000000000000000000000000000 ≤ S) (h2 : S ≤ 100000000000000000000000000000000000000) (h : (hiS S != up (wrap64 (lw S))) = true) : 0 = tN S ∧ 6 = tE S := by
  have h' : hiS S ≠ up (wrap64 (lw S)) := by simpa using h
  have A : ¬ I64 S := by
    intro hS
    apply h'
    unfold I64 at hS
    unfold hiS up wrap64 lw
    omega
  exact ⟨(tN_out A).symm, (tE_out A).symm⟩
theorem sum_good (S : Int) (h1 : -100000000000000000000000000000000000000 ≤ S) (h2 : S ≤ 100000000000000000000000000000000000000) (h : (hiS S != up (wrap64 (lw S))) = false) : wrap64 (lw S) = tN S ∧ 0 = tE S := by
  have h' : hiS S = up (wrap64 (lw S)) := by simpa using h
  have A : I64 S := by
    unfold hiS up wrap64 lw at h'
    unfold I64
    omega
  rw [tN_in A, tE_in A]
  unfold I64 at A
  unfold wrap64 lw
  exact ⟨by omega, rfl⟩
theorem w64_I64 (n : Int) : I64 (wrap64 n) := by unfold I64 wrap64; omega

set_option maxHeartbeats 1000000 in
theorem sum_any (b off len cap : Nat) (zs : List Int) (w : World) (hz : zs.length = len) (hbig : len ≤ 1152921504606846976) (hr : ∀ n, n ∈ zs → I64 n)
    (hc : ∀ j, j < len → w.cell? ⟨b, off + j, none⟩ = some (.int .i64 (zs.getD j 0))) :
    Calls Try.prog 26 #[.slice (some ⟨b, off, none⟩) len cap] w fun e w' => e = .returned (.tuple #[.int .i64 (tN (sm zs)), .int .i64 (tE (sm zs))]) ∧ w = w' := by
  have HR := Lib.hid hr
  have HZ := Lib.hid hz
  clear hr hz
  go_enter Try.func26, Try.ntmps26
  go_wp2
  go_loop [4, 5, 6, 11] (fun h l c i => ∃ (k : Nat) (cc : Int), k ≤ len ∧ i = .int .i64 k ∧ h = .int .u64 (hiS (sm (zs.take k))) ∧ l = .int .u64 (lw (sm (zs.take k))) ∧ c = .int .u64 cc) (fun _ _ _ i => len - (intOf i).toNat)
  case atStart => exact ⟨0, 0, Nat.zero_le _, rfl, rfl, rfl, rfl⟩
  case round =>
    obtain ⟨k, cc, hk, rfl, rfl, rfl, rfl⟩ := hrel
    by_cases hlt : k < len
    · have hcell := hc k hlt
      have hx : zs.getD k 0 ∈ zs := by
        have h3 : k < zs.length := by have := HZ.out; omega
        rw [show zs.getD k 0 = zs[k] from by simp [List.getD, h3]]
        exact List.getElem_mem _
      have hI := HR.out _ hx
      have HS := Lib.hid (sm_take zs k (by have := HZ.out; omega))
      obtain ⟨x, hxe⟩ : ∃ x, x = zs.getD k 0 := ⟨_, rfl⟩
      rw [← hxe] at hcell hI HS
      have l1 := lw_bd (sm (zs.take k))
      have l2 := hi_bd (sm (zs.take k))
      have l3 := wr_bd x
      have l4 := c_bd _ _ l1 l3
      have l5 := up_bd x
      obtain ⟨S, hS⟩ : ∃ S, S = sm (zs.take k) := ⟨_, rfl⟩
      rw [← hS] at l1 l2 l4 HS
      have e1 := Lib.hid (lo_step S x)
      have e2 := Lib.hid (hi_step S x)
      clear hx
      have HX := Lib.hid hxe
      have HSS := Lib.hid hS
      clear hxe hc
      rw [← hS]
      clear hS
      have hI' := Lib.hid hI
      clear hI
      go_wp2_with (first | simp only [add64 (lw S) (IntKind.u64.wrap x) 0 l1.1 l3.1 (Int.le_refl 0) (by decide)] | simp only [add64 (hiS S) (up x) _ l2.1 l5.1 l4.1 l4.2] | (go_at_call 38; refine (upper_any x hI'.out _).mono ?_; rintro e w' ⟨rfl, rfl⟩))
      go_round
      case rel => exact ⟨k + 1, _, by omega, by go_num, by rw [HS.out, e2.out], by rw [HS.out, e1.out], rfl⟩
      case measure => simp [intOf]; omega
    · obtain rfl : k = len := by omega
      have hT : zs.take k = zs := by rw [← HZ.out]; exact List.take_length
      rw [hT]
      have hb := sm_bd zs HR.out
      have hb1 : -100000000000000000000000000000000000000 ≤ sm zs := by have := HZ.out; omega
      have hb2 : sm zs ≤ 100000000000000000000000000000000000000 := by have := HZ.out; omega
      have B1 := Lib.hid (sum_bad (sm zs) hb1 hb2)
      have B2 := Lib.hid (sum_good (sm zs) hb1 hb2)
      have l1 := lw_bd (sm zs)
      have HI := Lib.hid (w64_I64 (lw (sm zs)))
      clear hb hb1 hb2 hT hc
      go_wp2_with (go_at_call 38; refine (upper_any _ HI.out _).mono ?_; rintro e w' ⟨rfl, rfl⟩)
      · have h : (hiS (sm zs) != up (wrap64 (lw (sm zs)))) = true := by assumption
        go_ret2
        exact ⟨ret2 (B1.out h).1 (B1.out h).2, rfl⟩
      · have h : (hiS (sm zs) != up (wrap64 (lw (sm zs)))) = false := by assumption
        go_ret2
        exact ⟨ret2 (B2.out h).1 (B2.out h).2, rfl⟩

/-- The sum of none. -/
theorem sum_none (c : Nat) (w : World) :
    Calls Try.prog 26 #[.slice none 0 c] w fun e w' => e = .returned (.tuple #[.int .i64 0, .int .i64 0]) ∧ w = w' := by
  go_enter Try.func26, Try.ntmps26
  go_wp2
  go_loop [4, 5, 6, 11] (fun h l _ i => i = .int .i64 0 ∧ h = .int .u64 0 ∧ l = .int .u64 0) (fun _ _ _ _ => 0)
  case atStart => exact ⟨rfl, rfl, rfl⟩
  case round =>
    obtain ⟨rfl, rfl, rfl⟩ := hrel
    go_wp2_with (go_at_call 38; refine (upper_any 0 (by unfold I64; omega) _).mono ?_; rintro e w' ⟨rfl, rfl⟩)
    go_ret2
    exact ⟨rfl, rfl⟩



















end Go.Proofs.Ytlbekdpmfjhjhaa
