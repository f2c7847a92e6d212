/- Contracts of the program's own form of a number, and of the library's slices.Clone and slices.Grow at lists of bytes. -/
import Derived.Test.YtehmheohojnpmaaWk
import Derived.Lib.AppendZerosOnto
import Derived.Lib.SliceRun
import Derived.Lib.Walk
namespace Go.Proofs.Ytehmheohojnpmaa
open Go.RowKit

theorem map_snoc (l : List Int) (x : Int) : (l ++ [x]).map (Value.int .u8) = l.map (Value.int .u8) ++ [.int .u8 x] := by simp
theorem len_map (l : List Int) (n : Nat) (h : l.length = n) : (l.map (Value.int .u8)).length = n := by rw [List.length_map]; exact h
theorem new_news (wr : World) (x : Int) : ∀ j u, ([.int .u8 x] : List Value)[j]? = some u → (wr.alloc (.cells #[.int .u8 x] 5)).cell? ((⟨wr.heap.size, 0, none⟩ : Addr).add j) = some u := by
  intro j u hj
  match j, hj with
  | 0, hj => simp at hj; subst hj; simp [Addr.add]
theorem one_x (x : Int) : ∀ u ∈ ([.int .u8 x] : List Value), u.oneCell' = true := by intro u hu; simp at hu; subst hu; rfl

set_option maxRecDepth 100000 in
theorem natural_any (n : Nat) (hn : n < 18446744073709551616) (w : World) : Calls Try.prog 42 #[.int .u64 n] w fun e W => Made w (nb n) e W := by
  have ht := nb_ten hn
  obtain ⟨i0, hi0, hz0, hz1, hz2⟩ := info_parts info_u8
  have HN := Lib.hid hn
  clear hn
  go_enter Try.func42, Try.ntmps42
  go_wp2_with fail
  go_loopw [0, 3] (fun x v wr => ∃ (m : Nat) (pre : List Int), x = .int .u64 m ∧ m ≤ 18446744073709551615 ∧ nb n = pre ++ nb m ∧ wr.ownsRow w.heap.size 5 1 v pre.length (pre.map (Value.int .u8)) ∧ Below w.heap.size w wr) (fun x _ _ => (intOf x).toNat)
  case atStart => exact ⟨n, [], rfl, by have := HN.out; omega, rfl, World.ownsRow_nil _ _ _ _, Below.refl _ _⟩
  case round =>
    obtain ⟨m, pre, rfl, hm, hpre, hown, hB⟩ := hrel
    have hl : pre.length + (nb m).length ≤ 10 := by rw [← List.length_append, ← hpre]; exact ht
    have hmp := nb_pos m
    have HB := Lib.hid hB
    have HO := Lib.hid hown
    have HP := Lib.hid hpre
    have hbs := HB.out.size
    clear hB hown hpre
    by_cases h : 128 ≤ m
    · have HH := Lib.hid (nb_big h)
      have N1 := Lib.hid (new_news wr ((m : Int) % 128 + 128))
      have N2 := Lib.hid (one_x ((m : Int) % 128 + 128))
      go_wp2_with (at_builtin; refine wpList_append_own _ rfl _ _ 23 rfl w.heap.size 5 i0 (.int .u8 0) 1 1 Try.underlying23 hi0 hz0 hz1 hz2 rfl (by decide) _ _ _ rfl (HO.out.alloc _) ⟨wr.heap.size, 0, none⟩ 1 1 [.int .u8 ((m : Int) % 128 + 128)] rfl rfl N1.out N2.out (by unfold maxLen; omega) (by omega) (by simp; omega) ?_; intro v' w1 hown' hgrow _; rw [← map_snoc] at hown'; have HO' := Lib.hid hown'; have HB' := Lib.hid ((HB.out.alloc HB.out.size _).grown hgrow (by have := HB.out.size; simp; omega) (fun j hj => (HO.out.lt j hj).1)); clear hown' hgrow)
      go_roundw
      case rel => exact ⟨m / 128, pre ++ [((m % 128 : Nat) : Int) + 128], by go_num, by omega, by rw [HP.out, HH.out]; simp, by rw [show ((m % 128 : Nat) : Int) = (m : Int) % 128 from by omega, List.length_append]; exact HO'.out, HB'.out⟩
      case measure => simp [intOf]; omega
    · have HH := Lib.hid (nb_small (n := m) (by omega))
      have N1 := Lib.hid (new_news wr (m : Int))
      have N2 := Lib.hid (one_x (m : Int))
      go_wp2_with (at_builtin; refine wpList_append_own _ rfl _ _ 23 rfl w.heap.size 5 i0 (.int .u8 0) 1 1 Try.underlying23 hi0 hz0 hz1 hz2 rfl (by decide) _ _ _ rfl (HO.out.alloc _) ⟨wr.heap.size, 0, none⟩ 1 1 [.int .u8 (m : Int)] rfl rfl N1.out N2.out (by unfold maxLen; omega) (by omega) (by simp; omega) ?_; intro v' w1 hown' hgrow _; rw [← map_snoc] at hown'; have HO' := Lib.hid hown'; have HB' := Lib.hid ((HB.out.alloc HB.out.size _).grown hgrow (by have := HB.out.size; simp; omega) (fun j hj => (HO.out.lt j hj).1)); clear hown' hgrow)
      go_ret
      refine ⟨_, rfl, ?_, HB'.out⟩
      rw [HP.out, HH.out, List.length_append]
      exact HO'.out

set_option maxRecDepth 100000 in
theorem clone_any (A : Option Addr) (n c : Nat) (bs : List Int) (w : World) (h : RdB w A n bs) (hn : n ≤ 200000) (h0 : A = none → n = 0 ∧ c = 0) :
    Calls Try.prog 43 #[.slice A n c] w fun e W => Made w bs e W := by
  have hl := h.1
  have q := fun (w : World) (a : Option Addr) (n c n' c' : Nat) => Lib.run_eql_slice_nil (P := Try.prog) w 23 5 a n c n' c' Try.underlying23
  obtain ⟨i0, hi0, hz0, hz1, hz2⟩ := info_parts info_u8
  have O := Lib.hid (own_none w)
  have Q := Lib.hid ((Below.refl _ w).alloc (Nat.le_refl _) (.cells #[] 5))
  have R0 := Lib.hid (h.below Q.out)
  cases A with
  | none =>
    obtain ⟨rfl, rfl⟩ := h0 rfl
    have : bs = [] := List.eq_nil_of_length_eq_zero hl
    subst this
    clear hl h
    go_enter Try.func43, Try.ntmps43
    go_wp2
    go_ret
    exact ⟨_, rfl, World.ownsRow_nil _ _ _ _, Below.refl _ _⟩
  | some ad =>
    have NW := Lib.hid (news_rd R0.out)
    have HL : Hid ((bs.map (Value.int .u8)).length = n * 1) := Lib.hid (by simp [hl])
    have HLL := Lib.hid hl
    clear hl h
    go_enter Try.func43, Try.ntmps43
    go_wp2_with (at_builtin; refine wpList_append_own _ rfl _ _ 23 rfl w.heap.size 5 i0 (.int .u8 0) 1 1 Try.underlying23 hi0 hz0 hz1 hz2 rfl (by decide) (.slice (some ⟨w.heap.size, 0, none⟩) 0 0) 0 [] rfl O.out ad n c (bs.map (Value.int .u8)) rfl HL.out NW.out (one_u8 _) (by unfold maxLen; omega) (by omega) (one_alloc _ _) ?_; intro v2 w2 hown2 hgrow2 _; rw [Nat.zero_add, List.nil_append] at hown2; have HO := Lib.hid hown2; have HG := Lib.hid (Q.out.grown hgrow2 (one_alloc _ _) (by intro k hk; simp [Value.ownBlock] at hk; omega)); clear hown2 hgrow2)
    go_ret
    refine ⟨_, rfl, ?_, HG.out⟩
    rw [HLL.out]
    exact HO.out
end Go.Proofs.Ytehmheohojnpmaa
