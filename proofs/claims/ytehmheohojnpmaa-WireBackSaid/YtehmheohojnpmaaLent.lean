/- Contracts of the document's plain form of a text, and of the statements' own helpers: a list lent with a mark behind it, and whether it was kept. -/
import Derived.Test.YtehmheohojnpmaaRw
import Derived.Laws.AppendOwnNone
namespace Go.Proofs.Ytehmheohojnpmaa
open Go.RowKit

set_option maxRecDepth 100000 in
theorem rtext_any (A : Option Addr) (n c : Nat) (bs : List Int) (w : World) (h : RdB w A n bs) (hn : n ≤ 100000) (h0 : A = none → n = 0 ∧ c = 0) : Calls Try.prog 20 #[.slice A n c] w fun e W => Made w (tb bs) e W := by
  have hl := h.1
  have cc := fun W => rnat_any n (by omega) W
  have C := Lib.hid cc
  have hp := nb_pos n
  have ht := nb_ten (n := n) (by omega)
  have HT : Hid (tb bs = nb n ++ bs) := Lib.hid (by unfold tb; rw [hl])
  have HH := Lib.hid h
  obtain ⟨i0, hi0, hz0, hz1, hz2⟩ := info_parts info_u8
  clear cc
  cases A with
  | none =>
    obtain ⟨rfl, rfl⟩ := h0 rfl
    have : bs = [] := List.eq_nil_of_length_eq_zero hl
    subst this
    clear h hl
    go_enter Try.func20, Try.ntmps20
    go_wp2_with fail
    refine (C.out _).mono ?_; rintro e w1 ⟨v, rfl, hN⟩
    obtain ⟨g, cap, rfl, _, _⟩ := hN.o.form hp
    have HN := Lib.hid hN
    have hb := hN.q.size
    clear hN
    go_wp2_with (at_builtin; refine wpList_append_own_none rfl (.tmp 6) (.tmp 7) 23 rfl w.heap.size 5 i0 1 Try.underlying23 hi0 (.slice (some ⟨g, 0, none⟩) (nb 0).length cap) (nb 0).length ((nb 0).map (Value.int .u8)) rfl HN.out.o rfl ?_)
    go_ret
    refine ⟨_, rfl, ?_⟩
    rw [HT.out, List.append_nil]
    exact HN.out
  | some ad =>
    clear h
    go_enter Try.func20, Try.ntmps20
    go_wp2_with fail
    refine (C.out _).mono ?_; rintro e w1 ⟨v, rfl, hN⟩
    obtain ⟨g, cap, rfl, _, _⟩ := hN.o.form hp
    have R1 := Lib.hid (HH.out.below hN.q)
    have HN := Lib.hid hN
    have hb := hN.q.size
    have NW := Lib.hid (news_rd R1.out)
    have HL : Hid ((bs.map (Value.int .u8)).length = n * 1) := Lib.hid (by simp [hl])
    clear hN hl
    obtain ⟨L, hL⟩ : ∃ L, (nb n).length = L := ⟨_, rfl⟩
    have O := Lib.hid HN.out.o
    rw [hL] at O hp ht
    rw [hL]
    have HLL := Lib.hid hL
    clear hL
    go_wp2_with (at_builtin; refine wpList_append_own _ rfl (.tmp 6) (.tmp 7) 23 rfl w.heap.size 5 i0 (.int .u8 0) 1 1 Try.underlying23 hi0 hz0 hz1 hz2 rfl (by decide) (.slice (some ⟨g, 0, none⟩) L cap) L ((nb n).map (Value.int .u8)) rfl O.out ad n c (bs.map (Value.int .u8)) rfl HL.out NW.out (one_u8 _) (by unfold maxLen; omega) (by omega) hb ?_; intro v2 w2 hown2 hgrow2 _)
    have R : New w w2 v2 (tb bs) := by
      refine ⟨?_, HN.out.q.grown hgrow2 hb fun k hk => (HN.out.o.lt k (by rw [HLL.out]; exact hk)).1⟩
      rw [HT.out, List.length_append, HLL.out, HH.out.1, List.map_append]
      exact hown2
    have R := Lib.hid R
    clear hown2 hgrow2
    go_wp2
    go_ret
    exact ⟨_, rfl, R.out⟩

/-- A list in new memory, and a mark behind it. -/
def Marked (w : World) (n : Nat) (bs : List Int) (v : Value) (W : World) : Prop :=
  ∃ g cap, v = .slice (some ⟨g, 0, none⟩) n cap ∧ W.ownsRow w.heap.size 5 1 (.slice (some ⟨g, 0, none⟩) (n + 1) cap) (n + 1) ((bs ++ [77]).map (Value.int .u8)) ∧ Below w.heap.size w W
theorem own_none (w : World) : (w.alloc (.cells #[] 5)).ownsRow w.heap.size 5 1 (.slice (some ⟨w.heap.size, 0, none⟩) 0 0) 0 [] :=
  ⟨rfl, .inr ⟨w.heap.size, 0, #[], rfl, Nat.le_refl _, heap_alloc_new w _, Nat.le_refl _, by unfold maxLen; omega, rfl, rfl⟩⟩
theorem two_alloc (w : World) (a b : Obj) : w.heap.size ≤ ((w.alloc a).alloc b).heap.size := by
  have h1 : (w.alloc a).heap.size = w.heap.size + 1 := by simp
  have h2 : ((w.alloc a).alloc b).heap.size = (w.alloc a).heap.size + 1 := by simp
  omega
theorem one_alloc (w : World) (a : Obj) : w.heap.size ≤ (w.alloc a).heap.size := by simp
theorem own_cap {W : World} {base g cap m : Nat} {e : TypeId} {size : Nat} {xs : List Value} (h : W.ownsRow base e size (.slice (some ⟨g, 0, none⟩) m cap) m xs) : m ≤ cap := by
  rcases h.2 with ⟨h', _⟩ | ⟨g', cap', cur, h', _, _, hc, _⟩
  · simp at h'
  · simp only [Value.slice.injEq] at h'
    omega
def LentE (w : World) (n : Nat) (bs : List Int) (e : Ending) (W : World) : Prop := ∃ v, e = .returned v ∧ Marked w n bs v W

set_option maxRecDepth 100000 in
theorem lent_any (A : Option Addr) (n c : Nat) (bs : List Int) (w : World) (h : RdB w A n bs) (hn : n ≤ 100000) (h0 : A = none → n = 0 ∧ c = 0) : Calls Try.prog 11 #[.slice A n c] w fun e W => LentE w n bs e W := by
  have hl := h.1
  have HH := Lib.hid h
  obtain ⟨i0, hi0, hz0, hz1, hz2⟩ := info_parts info_u8
  have O := Lib.hid (own_none w)
  have Q := Lib.hid ((Below.refl _ w).alloc (Nat.le_refl _) (.cells #[] 5))
  have R0 := Lib.hid (h.below ((Below.refl _ w).alloc (Nat.le_refl _) (.cells #[] 5)))
  clear h
  cases A with
  | none =>
    obtain ⟨rfl, rfl⟩ := h0 rfl
    have : bs = [] := List.eq_nil_of_length_eq_zero hl
    subst this
    clear hl
    have HB : Hid (((w.alloc (.cells #[] 5)).alloc (.cells #[.int .u8 77] 5)).heap[w.heap.size + 1]? = some (.cells #[.int .u8 77] 5 (0, 0))) := Lib.hid (by
      have := heap_alloc_new (w.alloc (.cells #[] 5)) (.cells #[.int .u8 77] 5)
      rwa [show (w.alloc (.cells #[] 5)).heap.size = w.heap.size + 1 by simp] at this)
    go_enter Try.func11, Try.ntmps11
    go_wp2_with (at_builtin; refine wpList_append_lies _ rfl (.tmp 5) (.tmp 6) 23 rfl w.heap.size 5 i0 (.int .u8 0) 1 1 Try.underlying23 hi0 hz0 hz1 hz2 rfl (by decide) (.slice (some ⟨w.heap.size, 0, none⟩) 0 0) 0 [] rfl (O.out.alloc _) ⟨w.heap.size + 1, 0, none⟩ 1 1 [.int .u8 77] rfl rfl (World.news_of_block (cs := #[.int .u8 77]) HB.out) (by simp [Value.oneCell']) (by decide) (by unfold maxLen; omega) (by omega) (two_alloc _ _ _) _ rfl ?_; intro g cap w3 hown3 hgrow3 _ _; have hcap := own_cap hown3; have HO := Lib.hid hown3; have HG := Lib.hid ((Q.out.alloc (one_alloc _ _) (.cells #[.int .u8 77] 5)).grown hgrow3 (two_alloc _ _ _) (by intro k hk; simp [Value.ownBlock] at hk; omega)); clear hown3 hgrow3)
    go_ret
    exact ⟨_, rfl, g, cap, rfl, HO.out, HG.out⟩
  | some ad =>
    have NW := Lib.hid (news_rd R0.out)
    have HL : Hid ((bs.map (Value.int .u8)).length = n * 1) := Lib.hid (by simp [hl])
    clear hl
    go_enter Try.func11, Try.ntmps11
    go_wp2_with (first
      | (at_builtin; refine wpList_append_own _ rfl (.tmp 3) (.tmp 4) 23 rfl w.heap.size 5 i0 (.int .u8 0) 1 1 Try.underlying23 hi0 hz0 hz1 hz2 rfl (by decide) (.slice (some ⟨w.heap.size, 0, none⟩) 0 0) 0 [] rfl O.out ad n c (bs.map (Value.int .u8)) rfl HL.out NW.out (one_u8 _) (by unfold maxLen; omega) (by omega) (by simp) ?_; intro v2 w2 hown2 hgrow2 _; rw [Nat.zero_add, List.nil_append] at hown2; have HO := Lib.hid hown2; have HG := Lib.hid (Q.out.grown hgrow2 (by simp) (by intro k hk; simp [Value.ownBlock] at hk; omega)); clear hown2 hgrow2)
      | (at_builtin; refine wpList_append_lies _ rfl (.tmp 5) (.tmp 6) 23 rfl w.heap.size 5 i0 (.int .u8 0) 1 1 Try.underlying23 hi0 hz0 hz1 hz2 rfl (by decide) v2 n (bs.map (Value.int .u8)) rfl (HO.out.alloc _) ⟨w2.heap.size, 0, none⟩ 1 1 [.int .u8 77] rfl rfl (World.news_of_block (cs := #[.int .u8 77]) (heap_alloc_new w2 _)) (by simp [Value.oneCell']) (by decide) (by unfold maxLen; omega) (by omega) (Nat.le_trans HG.out.size (by simp)) _ rfl ?_; intro g cap w3 hown3 hgrow3 _ _; have hcap := own_cap hown3; have HO3 := Lib.hid hown3; have HG3 := Lib.hid ((HG.out.alloc HG.out.size (.cells #[.int .u8 77] 5)).grown hgrow3 (Nat.le_trans HG.out.size (by simp)) (fun k hk => (HO.out.lt k hk).1)); clear hown3 hgrow3))
    go_ret
    refine ⟨_, rfl, g, cap, rfl, ?_, HG3.out⟩
    rw [List.map_append]
    exact HO3.out
end Go.Proofs.Ytehmheohojnpmaa
