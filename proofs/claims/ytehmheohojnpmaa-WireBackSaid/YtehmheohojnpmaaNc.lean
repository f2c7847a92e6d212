/- Contracts of the library's slices.Grow (of nil) and slices.Concat at lists of bytes. -/
import Derived.Test.YtehmheohojnpmaaNa
namespace Go.Proofs.Ytehmheohojnpmaa
open Go.RowKit

set_option maxRecDepth 100000 in
theorem grow_any (n : Nat) (hn : n ≤ 4000000) (w : World) : Calls Try.prog 48 #[.slice none 0 0, .int .i64 n] w fun e W => Made w [] e W := by
  obtain ⟨i0, hi0, hz0, hz1, hz2⟩ := info_parts info_u8
  rcases Nat.eq_zero_or_pos n with rfl | hp
  · go_enter Try.func48, Try.ntmps48
    go_wp2
    go_ret
    exact ⟨_, rfl, World.ownsRow_nil _ _ _ _, Below.refl _ _⟩
  · have hold : (Builtin.firstCells i0.size 0 (.slice none 0 0)).run Try.prog w.drew = .ok ([] : List Value).toArray w.drew := run_firstCells_none w.drew i0.size 0 0 0
    have hrz : ∀ ty, (Builtin.append_ #[23, 3] ty #[.slice none 0 0, .int .i64 n]).run Try.prog w =
        .ok (.slice (some ⟨w.heap.size, 0, none⟩) n (grownCap w n 0 5)) (w.drew.alloc (.cells (([] : List Value).toArray ++ Builtin.zeroCells (Value.int .u8 0).cells n ++ Builtin.zeroCells (Value.int .u8 0).cells (grownCap w n 0 5 - n)) 5)) := fun ty => by
      have h := Lib.run_append_grow_zeros w 23 3 ty 5 i0 (.int .u8 0) .i64 .i64 Try.underlying23 Try.underlying3 hi0 hz0 none 0 0 [] hold n hp (by omega) (by omega) (by omega) (by rw [hz2]; omega) (growslice_fits (by omega) (by rw [hz2]; omega))
      rwa [Nat.zero_add] at h
    have hge := grownCap_ge w n 0 5
    have hle := grownCap_le_maxLen w n 0 5 (by unfold maxLen; omega)
    obtain ⟨G, hG⟩ : ∃ G, grownCap w n 0 5 = G := ⟨_, rfl⟩
    rw [hG] at hrz hge hle
    have hG63 : G ≤ 9223372036854775807 := by unfold maxLen at hle; omega
    have hsz : (([] : List Value).toArray ++ Builtin.zeroCells (Value.int .u8 0).cells n ++ Builtin.zeroCells (Value.int .u8 0).cells (G - n)).size = G * 1 := by
      simp [Builtin.zeroCells, Value.cells]; omega
    have O := Lib.hid (World.ownsRow_made (base := w.heap.size) (e := 5) (size := 1) w.drew _ G (Nat.le_refl _) hle hsz)
    have Q := Lib.hid ((Below.refl w.heap.size w).drew.alloc (Nat.le_refl _) (.cells (([] : List Value).toArray ++ Builtin.zeroCells (Value.int .u8 0).cells n ++ Builtin.zeroCells (Value.int .u8 0).cells (G - n)) 5))
    obtain ⟨W, hW⟩ : ∃ W, w.drew.alloc (.cells (([] : List Value).toArray ++ Builtin.zeroCells (Value.int .u8 0).cells n ++ Builtin.zeroCells (Value.int .u8 0).cells (G - n)) 5) = W := ⟨_, rfl⟩
    rw [hW] at O Q hrz
    clear hsz hold hG hW
    go_enter Try.func48, Try.ntmps48
    go_wp2_with (at_builtin; refine Lib.wpList_append_run _ rfl _ _ _ _ rfl _ _ rfl rfl _ _ (hrz _) ?_)
    go_ret
    exact ⟨_, rfl, O.out, Q.out⟩

/-- A part of what is joined. -/
structure Pt where
  A : Option Addr
  n : Nat
  c : Nat
  bs : List Int
def Pt.v (p : Pt) : Value := .slice p.A p.n p.c
def Pt.ok (W : World) (p : Pt) : Prop := RdB W p.A p.n p.bs ∧ (p.A = none → p.n = 0 ∧ p.c = 0)
def cat : List Pt → List Int
  | [] => []
  | p :: l => p.bs ++ cat l
theorem cat_take : ∀ (ps : List Pt) (k : Nat) (p : Pt), ps[k]? = some p → cat (ps.take (k + 1)) = cat (ps.take k) ++ p.bs
  | [], k, p, h => by simp at h
  | q :: l, 0, p, h => by simp at h; subst h; simp [cat]
  | q :: l, k + 1, p, h => by
    have := cat_take l k p (by simpa using h)
    simp [cat, this]
theorem cat_le : ∀ (ps : List Pt) (k : Nat), (cat (ps.take k)).length ≤ (cat ps).length
  | [], k => by simp
  | q :: l, 0 => by simp [cat]
  | q :: l, k + 1 => by
    have := cat_le l k
    simp [cat]; omega

set_option maxRecDepth 100000 in
set_option maxHeartbeats 1000000 in
theorem concat_any (g m : Nat) (ps : List Pt) (w : World) (hm : ps.length = m) (hm2 : m ≤ 1000) (hc : ∀ j p, ps[j]? = some p → w.cell? ⟨g, j, none⟩ = some p.v) (ho : ∀ p, p ∈ ps → p.ok w) (hT : (cat ps).length ≤ 4000000) :
    Calls Try.prog 41 #[.slice (some ⟨g, 0, none⟩) m m] w fun e W => Made w (cat ps) e W := by
  obtain ⟨i0, hi0, hz0, hz1, hz2⟩ := info_parts info_u8
  have HC := Lib.hid hc
  have HO := Lib.hid ho
  have HM := Lib.hid hm
  clear hc ho hm
  go_enter Try.func41, Try.ntmps41
  go_wp2_with fail
  go_loop [3, 5, 11] (fun z _ i => ∃ k : Nat, k ≤ m ∧ i = .int .i64 k ∧ z = .int .i64 (cat (ps.take k)).length) (fun _ _ i => m - (intOf i).toNat)
  case atStart => exact ⟨0, Nat.zero_le _, rfl, rfl⟩
  case round =>
    obtain ⟨k, hk, rfl, rfl⟩ := hrel
    by_cases hlt : k < m
    case pos =>
      obtain ⟨p, hp⟩ : ∃ p, ps[k]? = some p := ⟨ps[k]'(by rw [HM.out]; exact hlt), List.getElem?_eq_getElem _⟩
      have hcell := HC.out k p hp
      have h1 := cat_take ps k p hp
      have h2 := cat_le ps (k + 1)
      have h3 := congrArg List.length h1
      rw [List.length_append, (HO.out p (List.mem_of_getElem? hp)).1.1] at h3
      obtain ⟨L, hL⟩ : ∃ L, (cat (ps.take k)).length = L := ⟨_, rfl⟩
      obtain ⟨A, n, c, bs⟩ := p
      unfold Pt.v at hcell
      dsimp only at hcell h3
      rw [hL] at h3
      have hb : L + n ≤ 4000000 := by omega
      have H3 := Lib.hid h3
      rw [hL]
      clear h1 h2 h3 hp hL
      go_wp2
      go_round
      case rel => exact ⟨k + 1, hlt, by go_num, by rw [H3.out]; go_num⟩
      case measure => simp [intOf]; omega
    case neg =>
      obtain rfl : k = m := by omega
      have hT' : (cat (ps.take k)).length ≤ 4000000 := by have := cat_le ps k; omega
      have G := Lib.hid (grow_any (cat (ps.take k)).length hT' w)
      obtain ⟨L, hL⟩ : ∃ L, (cat (ps.take k)).length = L := ⟨_, rfl⟩
      rw [hL] at G hT' ⊢
      clear hL
      go_wp2_with fail
      refine G.out.mono ?_; rintro e w1 ⟨v, rfl, hN⟩
      have O0 := Lib.hid hN.o
      have B0 := Lib.hid hN.q
      clear hN G
      go_wp2_with fail
      go_loopw [6, 8, 27] (fun v _ i wr => ∃ j : Nat, j ≤ k ∧ i = .int .i64 j ∧ wr.ownsRow w.heap.size 5 1 v (cat (ps.take j)).length ((cat (ps.take j)).map (Value.int .u8)) ∧ Below w.heap.size w wr) (fun _ _ i _ => k - (intOf i).toNat)
      case atStart => exact ⟨0, Nat.zero_le _, rfl, O0.out, B0.out⟩
      case round =>
        obtain ⟨j, hj, rfl, hown, hB⟩ := hrel
        have HW := Lib.hid hown
        have HB := Lib.hid hB
        clear hown hB
        by_cases hlt : j < k
        case neg =>
          obtain rfl : j = k := by omega
          go_wp2
          go_ret
          refine ⟨_, rfl, ?_, HB.out⟩
          have e : ps.take j = ps := List.take_of_length_le (by rw [HM.out]; exact Nat.le_refl _)
          have := HW.out
          rwa [e] at this
        case pos =>
          obtain ⟨p, hp⟩ : ∃ p, ps[j]? = some p := ⟨ps[j]'(by rw [HM.out]; exact hlt), List.getElem?_eq_getElem _⟩
          have hcell := (HB.out.cell (World.block_lt_of_cell? w _ (HC.out j p hp))).trans (HC.out j p hp)
          have h1 := cat_take ps j p hp
          have h2 := cat_le ps (j + 1)
          have h3 := congrArg List.length h1
          have hok := HO.out p (List.mem_of_getElem? hp)
          rw [List.length_append, hok.1.1] at h3
          have hr := hok.1.below HB.out
          have h0 := hok.2
          have hbs := HB.out.size
          obtain ⟨A, n, c, bs⟩ := p
          unfold Pt.v at hcell
          dsimp only at hcell h3 hr h0 h1
          have hl := hr.1
          have H1 := Lib.hid h1
          have hb : (cat (ps.take j)).length + n ≤ 4000000 := by omega
          have H3 := Lib.hid h3
          have e2 : ((cat (ps.take (j + 1))).map (Value.int .u8)) = (cat (ps.take j)).map (Value.int .u8) ++ bs.map (Value.int .u8) := by rw [h1, List.map_append]
          have E2 := Lib.hid e2
          obtain ⟨L, hL⟩ : ∃ L, (cat (ps.take j)).length = L := ⟨_, rfl⟩
          obtain ⟨X, hX⟩ : ∃ X, (cat (ps.take j)).map (Value.int .u8) = X := ⟨_, rfl⟩
          rw [hL, hX] at HW
          rw [hL] at H3 hb
          rw [hX] at E2
          clear h1 h2 h3 hp hL hX hok e2
          cases A with
          | none =>
            obtain ⟨rfl, rfl⟩ := h0 rfl
            have : bs = [] := List.eq_nil_of_length_eq_zero hl
            subst this
            clear h0 hr hl
            go_wp2_with (at_builtin; refine wpList_append_own_none rfl _ _ 23 rfl w.heap.size 5 i0 1 Try.underlying23 hi0 _ _ _ rfl HW.out rfl ?_)
            go_roundw
            case rel => exact ⟨j + 1, hlt, by go_num, by rw [H3.out, E2.out]; simpa using HW.out, HB.out⟩
            case measure => simp [intOf]; omega
          | some ad =>
            have NW := Lib.hid (news_rd hr)
            have HL : Hid ((bs.map (Value.int .u8)).length = n * 1) := Lib.hid (by simp [hl])
            clear h0 hr hl
            go_wp2_with (at_builtin; refine wpList_append_own _ rfl _ _ 23 rfl w.heap.size 5 i0 (.int .u8 0) 1 1 Try.underlying23 hi0 hz0 hz1 hz2 rfl (by decide) _ _ _ rfl HW.out ad n c (bs.map (Value.int .u8)) rfl HL.out NW.out (one_u8 _) (by unfold maxLen; omega) (by omega) hbs ?_; intro v2 w2 hown2 hgrow2 _; have HG := Lib.hid (HB.out.grown hgrow2 hbs (fun j hj => (HW.out.lt j hj).1)); have HW2 := Lib.hid hown2; clear hown2 hgrow2)
            go_roundw
            case rel => exact ⟨j + 1, hlt, by go_num, by rw [H3.out, E2.out]; exact HW2.out, HG.out⟩
            case measure => simp [intOf]; omega
end Go.Proofs.Ytehmheohojnpmaa
