/- Contracts of the document's plain reader. -/
import Derived.Test.YtbmlpokkojhhjaaGreatG02
import Derived.Test.YtbmlpokkojhhjaaGreatG08
namespace Go.Proofs.YtbmlpokkojhhjaaGreat
open Go.RowKit

/-- A reader that stands in memory: what is left, and the fault. -/
structure Rr (W : World) (g : Nat) (A : Option Addr) (n c : Nat) (bs : List Int) (e : Int) : Prop where
  b : W.heap[g]? = some (.cells #[.slice A n c, .int .i64 e] 63 (0, 0))
  r : RdB W A n bs
  nc : n ≤ c
theorem Rr.c0 {W : World} {g : Nat} {A : Option Addr} {n c : Nat} {bs : List Int} {e : Int} (h : Rr W g A n c bs e) : W.cell? ⟨g, 0, none⟩ = some (.slice A n c) := by rw [cell_of_row _ _ _ _ _ _ h.b]; rfl
theorem Rr.c1 {W : World} {g : Nat} {A : Option Addr} {n c : Nat} {bs : List Int} {e : Int} (h : Rr W g A n c bs e) : W.cell? ⟨g, 1, none⟩ = some (.int .i64 e) := by rw [cell_of_row _ _ _ _ _ _ h.b]; rfl
theorem Rr.fr {W : World} {g : Nat} {A : Option Addr} {n c : Nat} {bs : List Int} {e : Int} (h : Rr W g A n c bs e) (k : Nat) : W.frozen? ⟨g, k, none⟩ = false := frozen_of_row W g k _ _ h.b

/-- What a number's reading tells. -/
def NatE (bs : List Int) (w : World) (e : Ending) (w' : World) : Prop := e = .returned (.tuple #[.int .u64 (rdN bs).1, .int .i64 ((rdN bs).2.1 : Nat), .int .i64 (rdN bs).2.2]) ∧ w = w'

set_option maxRecDepth 100000 in
set_option maxHeartbeats 2000000 in
theorem rn_any (g n c : Nat) (A : Option Addr) (bs : List Int) (er : Int) (w : World) (h : Rr w g A n c bs er) (hy : By bs) (hn : n ≤ 100000) :
    Calls Tryz.prog 70 #[.pointer (some ⟨g, 0, none⟩)] w fun e w' => NatE bs w e w' := by
  have hl := h.r.1
  have d0 := h.c0
  have HH := Lib.hid h
  have HY := Lib.hid hy
  have HL := Lib.hid hl
  clear h hy hl
  go_enter Tryz.func70, Tryz.ntmps70
  go_wp2_with fail
  go_loop [5] (fun i => ∃ k : Nat, k ≤ n ∧ i = .int .i64 k ∧ ∀ t, t < k → 128 ≤ bs.getD t 0) (fun i => n - (intOf i).toNat)
  case atStart => exact ⟨0, Nat.zero_le _, rfl, fun t ht => absurd ht (Nat.not_lt_zero t)⟩
  case round =>
    obtain ⟨k, hk, rfl, hp⟩ := hrel
    have HP := Lib.hid hp
    clear hp
    by_cases hlt : k < n
    case neg =>
      obtain rfl : k = n := by omega
      have E := ld_eq (bs := bs) (k := k) HP.out (by rw [HL.out]; exact Nat.le_refl _) (fun c => by rw [HL.out] at c; omega)
      by_cases h10 : 10 ≤ k
      · have R : rdN bs = (0, 0, 5) := by unfold rdN; rw [E, if_pos (by rw [HL.out]; exact Nat.le_refl _), if_pos h10]
        have HRD := Lib.hid R
        clear R E
        go_wp2
        go_ret3
        unfold NatE
        rw [HRD.out]
        exact ⟨rfl, rfl⟩
      · have R : rdN bs = (0, 0, 4) := by unfold rdN; rw [E, if_pos (by rw [HL.out]; exact Nat.le_refl _), if_neg h10]
        have HRD := Lib.hid R
        clear R E
        go_wp2
        go_ret3
        unfold NatE
        rw [HRD.out]
        exact ⟨rfl, rfl⟩
    case pos =>
      obtain ⟨b, o, rfl, hc⟩ := HH.out.r.2 (by omega)
      have HC := Lib.hid hc
      have hcell := hc k hlt
      have hyk : 0 ≤ bs.getD k 0 ∧ bs.getD k 0 ≤ 255 := HY.out _ (by
        have h3 : k < bs.length := by rw [HL.out]; exact hlt
        rw [show bs.getD k 0 = bs[k] from by simp [List.getD, h3]]
        exact List.getElem_mem _)
      obtain ⟨x, hx⟩ : ∃ x, bs.getD k 0 = x := ⟨_, rfl⟩
      rw [hx] at hcell hyk
      have HX := Lib.hid hx
      clear hc hx
      by_cases h128 : 128 ≤ x
      · go_wp2
        go_round
        case rel => exact ⟨k + 1, hlt, by go_num, fun t ht => by
          rcases Nat.lt_succ_iff_lt_or_eq.1 ht with h1 | rfl
          · exact HP.out t h1
          · rw [HX.out]; exact h128⟩
        case measure => simp [intOf]; omega
      · have E := ld_eq (bs := bs) (k := k) HP.out (by rw [HL.out]; omega) (fun _ => by rw [HX.out]; omega)
        have hsh : ¬ bs.length ≤ ld bs := by rw [HL.out, E]; omega
        by_cases hbad : 9 < k ∨ (k = 9 ∧ 1 < x) ∨ (0 < k ∧ x = 0)
        · have R : rdN bs = (0, 0, 5) := by
            unfold rdN
            rw [if_neg hsh, if_pos]
            rw [E, HX.out]
            rcases hbad with c | ⟨c1, c2⟩ | c
            · exact .inl c
            · exact .inr (.inl ⟨c1, by rw [← c1, HX.out]; exact c2⟩)
            · exact .inr (.inr c)
          have HRD := Lib.hid R
          clear R E hsh
          by_cases k9 : 9 < k
          · clear hbad
            go_wp2
            go_ret3
            unfold NatE
            rw [HRD.out]
            exact ⟨rfl, rfl⟩
          by_cases e9 : k = 9
          · subst e9
            by_cases x1 : 1 < x
            · clear hbad
              go_wp2
              go_ret3
              unfold NatE
              rw [HRD.out]
              exact ⟨rfl, rfl⟩
            · obtain rfl : x = 0 := by omega
              clear hbad
              go_wp2
              go_ret3
              unfold NatE
              rw [HRD.out]
              exact ⟨rfl, rfl⟩
          · obtain ⟨k0, rfl⟩ : 0 < k ∧ x = 0 := by omega
            clear hbad
            go_wp2
            go_ret3
            unfold NatE
            rw [HRD.out]
            exact ⟨rfl, rfl⟩
        · have R : rdN bs = (dv (bs.take (k + 1)), k + 1, 0) := by
            unfold rdN
            rw [if_neg hsh, if_neg, E]
            rw [E, HX.out]
            rintro (c | ⟨c1, c2⟩ | c)
            · exact hbad (.inl c)
            · exact hbad (.inr (.inl ⟨c1, by rw [← c1, HX.out] at c2; exact c2⟩))
            · exact hbad (.inr (.inr c))
          have HRD := Lib.hid R
          have hw := dv_word (bs := bs) (k := k) (by rw [HL.out]; exact hlt) (by omega) (fun e => by rw [← e, HX.out]; omega)
          have HW := Lib.hid (fun j => And.intro (dv_nonneg ((bs.take (k + 1)).drop j)) (Int.le_trans (dv_drop (bs.take (k + 1)) j) hw))
          have htl : (bs.take (k + 1)).length = k + 1 := by simp; have := HL.out; omega
          have HS := Lib.hid (fun j (hj : j < k + 1) => dv_step (bs := bs.take (k + 1)) (j := j) (by rw [htl]; exact hj))
          have hd0 : dv ((bs.take (k + 1)).drop (k + 1)) = 0 := by rw [List.drop_of_length_le (by rw [htl]; exact Nat.le_refl _)]; rfl
          have HD0 := Lib.hid hd0
          clear R E hsh hw htl hd0
          have hk9 : k ≤ 9 := by omega
          by_cases e9 : k = 9
          · subst e9
            have hcell9 : w.cell? ⟨b, o + 9, none⟩ = some (.int .u8 x) := hcell
            obtain rfl : x = 1 := by omega
            clear hbad
            go_wp2_with fail
            go_loop [6, 7] (fun a i => ∃ j : Nat, j ≤ 9 + 1 ∧ i = .int .i64 ((j : Int) - 1) ∧ a = .int .u64 (dv ((bs.take (9 + 1)).drop j))) (fun _ i => (intOf i + 1).toNat)
            case atStart => exact ⟨9 + 1, Nat.le_refl _, by go_num, by rw [HD0.out]⟩
            case round =>
              obtain ⟨j, hj, rfl, rfl⟩ := hrel
              match j, hj with
              | 0, _ =>
                have HE := Lib.hid (show dv ((bs.take (9 + 1)).drop 0) = dv (bs.take (9 + 1)) from rfl)
                go_wp2
                go_ret3
                unfold NatE
                rw [HRD.out]
                exact ⟨rfl, rfl⟩
              | m + 1, hj =>
                rw [show ((m + 1 : Nat) : Int) - 1 = (m : Int) from by omega]
                have hcm := HC.out m (by omega)
                have hw0 := HW.out m
                have hs := HS.out m (by omega)
                rw [take_getD (by omega)] at hs
                have hy0 : 0 ≤ bs.getD m 0 ∧ bs.getD m 0 ≤ 255 := HY.out _ (by
                  have h3 : m < bs.length := by rw [HL.out]; omega
                  rw [show bs.getD m 0 = bs[m] from by simp [List.getD, h3]]
                  exact List.getElem_mem _)
                have hv0 := dv_nonneg ((bs.take (9 + 1)).drop (m + 1))
                obtain ⟨y, hy⟩ : ∃ y, bs.getD m 0 = y := ⟨_, rfl⟩
                obtain ⟨v, hv⟩ : ∃ v, dv ((bs.take (9 + 1)).drop (m + 1)) = v := ⟨_, rfl⟩
                rw [hy] at hcm hs hy0
                rw [hv] at hs hv0
                rw [hs] at hw0
                rw [hv]
                have HSS := Lib.hid hs
                have hmn : m < n := by omega
                clear hs hy hv
                go_wp2
                go_round
                case rel => exact ⟨m, by omega, by go_num, by rw [HSS.out]; congr 1; omega⟩
                case measure => simp [intOf]
          by_cases k0 : k = 0
          · subst k0
            have hcell0 : w.cell? ⟨b, o, none⟩ = some (.int .u8 x) := hcell
            clear hbad
            go_wp2_with fail
            go_loop [6, 7] (fun a i => ∃ j : Nat, j ≤ 0 + 1 ∧ i = .int .i64 ((j : Int) - 1) ∧ a = .int .u64 (dv ((bs.take (0 + 1)).drop j))) (fun _ i => (intOf i + 1).toNat)
            case atStart => exact ⟨0 + 1, Nat.le_refl _, by go_num, by rw [HD0.out]⟩
            case round =>
              obtain ⟨j, hj, rfl, rfl⟩ := hrel
              match j, hj with
              | 0, _ =>
                have HE := Lib.hid (show dv ((bs.take (0 + 1)).drop 0) = dv (bs.take (0 + 1)) from rfl)
                go_wp2
                go_ret3
                unfold NatE
                rw [HRD.out]
                exact ⟨rfl, rfl⟩
              | m + 1, hj =>
                rw [show ((m + 1 : Nat) : Int) - 1 = (m : Int) from by omega]
                have hcm := HC.out m (by omega)
                have hw0 := HW.out m
                have hs := HS.out m (by omega)
                rw [take_getD (by omega)] at hs
                have hy0 : 0 ≤ bs.getD m 0 ∧ bs.getD m 0 ≤ 255 := HY.out _ (by
                  have h3 : m < bs.length := by rw [HL.out]; omega
                  rw [show bs.getD m 0 = bs[m] from by simp [List.getD, h3]]
                  exact List.getElem_mem _)
                have hv0 := dv_nonneg ((bs.take (0 + 1)).drop (m + 1))
                obtain ⟨y, hy⟩ : ∃ y, bs.getD m 0 = y := ⟨_, rfl⟩
                obtain ⟨v, hv⟩ : ∃ v, dv ((bs.take (0 + 1)).drop (m + 1)) = v := ⟨_, rfl⟩
                rw [hy] at hcm hs hy0
                rw [hv] at hs hv0
                rw [hs] at hw0
                rw [hv]
                have HSS := Lib.hid hs
                have hmn : m < n := by omega
                clear hs hy hv
                go_wp2
                go_round
                case rel => exact ⟨m, by omega, by go_num, by rw [HSS.out]; congr 1; omega⟩
                case measure => simp [intOf]
          · have hx0 : decide (x = 0) = false := decide_eq_false (by omega)
            have hx0' : (x == 0) = false := by simp; omega
            have hk0 : (0 : Int) < k := by omega
            have hk9 : decide ((k : Int) = 9) = false := decide_eq_false (by omega)
            have hk9' : ((k : Int) == 9) = false := by simp; omega
            clear hbad k0 e9
            go_wp2_with fail
            go_loop [6, 7] (fun a i => ∃ j : Nat, j ≤ k + 1 ∧ i = .int .i64 ((j : Int) - 1) ∧ a = .int .u64 (dv ((bs.take (k + 1)).drop j))) (fun _ i => (intOf i + 1).toNat)
            case atStart => exact ⟨k + 1, Nat.le_refl _, by go_num, by rw [HD0.out]⟩
            case round =>
              obtain ⟨j, hj, rfl, rfl⟩ := hrel
              match j, hj with
              | 0, _ =>
                have HE := Lib.hid (show dv ((bs.take (k + 1)).drop 0) = dv (bs.take (k + 1)) from rfl)
                go_wp2
                go_ret3
                unfold NatE
                rw [HRD.out]
                exact ⟨rfl, rfl⟩
              | m + 1, hj =>
                rw [show ((m + 1 : Nat) : Int) - 1 = (m : Int) from by omega]
                have hcm := HC.out m (by omega)
                have hw0 := HW.out m
                have hs := HS.out m (by omega)
                rw [take_getD (by omega)] at hs
                have hy0 : 0 ≤ bs.getD m 0 ∧ bs.getD m 0 ≤ 255 := HY.out _ (by
                  have h3 : m < bs.length := by rw [HL.out]; omega
                  rw [show bs.getD m 0 = bs[m] from by simp [List.getD, h3]]
                  exact List.getElem_mem _)
                have hv0 := dv_nonneg ((bs.take (k + 1)).drop (m + 1))
                obtain ⟨y, hy⟩ : ∃ y, bs.getD m 0 = y := ⟨_, rfl⟩
                obtain ⟨v, hv⟩ : ∃ v, dv ((bs.take (k + 1)).drop (m + 1)) = v := ⟨_, rfl⟩
                rw [hy] at hcm hs hy0
                rw [hv] at hs hv0
                rw [hs] at hw0
                rw [hv]
                have HSS := Lib.hid hs
                have hmn : m < n := by omega
                clear hs hy hv
                go_wp2
                go_round
                case rel => exact ⟨m, by omega, by go_num, by rw [HSS.out]; congr 1; omega⟩
                case measure => simp [intOf]
end Go.Proofs.YtbmlpokkojhhjaaGreat
