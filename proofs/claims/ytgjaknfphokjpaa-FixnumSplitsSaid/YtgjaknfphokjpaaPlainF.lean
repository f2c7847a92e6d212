/- Contract of the document's own split: the same parts as the program's, or the same error; and the walk of the statement FixnumSplits. -/
import Derived.Test.YtgjaknfphokjpaaPlainB
import Derived.Test.YtgjaknfphokjpaaPlainE
import Derived.Test.YtgjaknfphokjpaaSplit
namespace Go.Proofs.Ytgjaknfphokjpaa
open Go.RowKit Go.Sort

theorem refsplit_any (A : Option Addr) (n c : Nat) (ws : List Int) (T : Int) (g : Nat → Int) (w : World) (h : Rd w A n ws) (hr : ∀ n, n ∈ ws → I64 n) (hT : I64 T) (hbig : n ≤ 9223372036854775807) (b : Bool) (hb : b = true ↔ Ng ws)
    (hg : se T ws b = 0 → 0 < T → Sp.Ok T (sm ws) ws ∧ St.Rn (Sp.ky T (sm ws) ws) g 0 ws.length) :
    Calls Try.prog 28 #[.int .i64 T, .slice A n c] w fun e w' => PartedR T ws b g w w' e := by
  have hl := h.1
  by_cases c1 : 1000 < n
  · exact (refsplit_long A n c T w c1 hbig).mono fun e w' k => k.parted (by unfold se; rw [if_pos (by omega)]) (by decide)
  have E1 : ∀ x y : Int, (if 1000 < ws.length then x else y) = y := fun x y => if_neg (by omega)
  cases b with
  | true =>
    refine (refsplit_neg A n c ws T w h (by omega) (hb.1 rfl)).mono fun e w' k => k.parted ?_ (by decide)
    unfold se
    rw [E1]
    split
    · rfl
    · rfl
  | false =>
    have hw : ∀ t, 0 ≤ ws.getD t 0 := fun t => by
      by_cases ht : t < ws.length
      · refine Classical.byContradiction fun c => ?_
        have := hb.2 ⟨t, ht, by omega⟩
        cases this
      · have : ws.getD t 0 = 0 := by simp [List.getD, Nat.le_of_not_lt ht]
        omega
    by_cases c2 : T < 0
    · exact (refsplit_below A n c ws T w h (by omega) hw c2).mono fun e w' k => k.parted (by unfold se; rw [E1, if_pos c2]) (by decide)
    have E2 : ∀ x y : Int, (if T < 0 then x else y) = y := fun x y => if_neg c2
    by_cases c3 : I64 (sm ws)
    case neg =>
      exact (refsplit_over A n c ws T w h (by omega) hr hw (by omega) c3).mono fun e w' k => k.parted (by unfold se; rw [E1, E2, tE_out c3]; simp) (by decide)
    case pos =>
    have E3 : se T ws false = if T = 0 then 0 else if sm ws = 0 then 10 else 0 := by unfold se; rw [E1, E2, tE_in c3]; simp
    by_cases c4 : T = 0
    · subst c4
      exact (refsplit_zero A n c ws w h (by omega) hr hw c3).mono fun e w' k => k.parted (by rw [E3, if_pos rfl]) (by rw [pt_zero, hl])
    rw [if_neg c4] at E3
    by_cases c5 : sm ws = 0
    · exact (refsplit_none A n c ws T w h (by omega) hr hw (by omega) (by unfold I64 at hT; omega) c5).mono fun e w' k => k.parted (by rw [E3, if_pos c5]) (by decide)
    · rw [if_neg c5] at E3
      exact (refsplit_main A n c ws T g w h (by omega) (hg E3 (by omega))).mono fun e w' k => k.parted E3 rfl

theorem splits_known (A : Option Addr) (n c : Nat) (T : Int) (w : World) (h1 : 60 < n) (h2 : n ≤ 1000) :
    Calls Try.prog 6 #[.int .i64 T, .slice A n c] w fun e w' => e = .returned (.bool true) ∧ Below w.heap.size w w' := by
  go_enter Try.func6, Try.ntmps6
  go_wp2_with fail
  refine (known_any _).mono ?_; rintro e w1 ⟨rfl, hq⟩
  go_wp2_with fail
  go_ret
  exact ⟨rfl, hq.2⟩

/-- What follows the copy: both splits, and the lists that come of them. -/
def Two (T : Int) (A A' : Option Addr) (n c c' : Nat) (w w2 : World) : Prop :=
  Calls Try.prog 27 #[.int .i64 T, .slice A' n c'] w2 fun e w3 => ∃ (er : Int) (A1 : Option Addr) (n1 : Nat), e = .returned (.tuple #[.slice A1 n1 n1, .int .i64 er]) ∧
    Calls Try.prog 28 #[.int .i64 T, .slice A n c] w3 fun e w4 => ∃ (A2 : Option Addr) (c2 : Nat), e = .returned (.tuple #[.slice A2 n1 c2, .int .i64 er]) ∧ Below w.heap.size w w4 ∧
      Calls Try.prog 22 #[.slice A1 n1 n1, .slice A2 n1 c2] w4 fun e w5 => e = .returned (.bool true) ∧ (∃ m, w5 = w4.drewN m) ∧
        Calls Try.prog 22 #[.slice A' n c', .slice A n c] w5 fun e w6 => e = .returned (.bool true) ∧ ∃ m, w6 = w5.drewN m
theorem two_any (T : Int) (A A' : Option Addr) (n c c' : Nat) (ws : List Int) (w w2 : World) (h : Rd w2 A n ws) (h' : Rd w2 A' n ws) (hr : ∀ n, n ∈ ws → I64 n) (hT : I64 T) (hbig : n ≤ 1152921504606846975) (b : Bool) (hb : b = true ↔ Ng ws) (hq : Below w.heap.size w w2) :
    Two T A A' n c c' w w2 := by
  refine (split_any A' n c' ws T w2 h' hr hT hbig b hb).mono ?_
  rintro e w3 ⟨g, hg, ⟨A1, n1, zs1, rfl, r1, p1, q1⟩, u1⟩
  refine ⟨se T ws b, A1, n1, rfl, ?_⟩
  have h3 := h.below u1.2
  have h3' := h'.below u1.2
  have b3 := hq.trans (u1.2.mono hq.size)
  refine (refsplit_any A n c ws T g w3 h3 hr hT (by omega) b hb hg).mono ?_
  rintro e w4 ⟨A2, n2, c2, zs2, rfl, r2, p2, q2, bl⟩
  have hz : zs1 = zs2 := by
    by_cases c0 : se T ws b = 0
    · rw [p1 c0, p2 c0]
    · rw [(q1 c0).2, (q2 c0).2]
  subst hz
  have hn : n2 = n1 := by rw [← r1.1, ← r2.1]
  subst hn
  have hn1 : n2 ≤ 1152921504606846975 := by
    by_cases c0 : se T ws b = 0
    · have := r1.1
      rw [p1 c0, pt_len, h.1] at this
      omega
    · have := r1.1
      rw [(q1 c0).2] at this
      simp at this
      omega
  refine ⟨A2, c2, rfl, b3.trans (bl.mono b3.size), ?_⟩
  refine (same_any A1 A2 n2 n2 c2 zs1 w4 (r1.below bl) r2 hn1).mono ?_
  rintro e w5 ⟨rfl, m, rfl⟩
  refine ⟨rfl, ⟨m, rfl⟩, ?_⟩
  exact same_any A' A n c' c ws (w4.drewN m) ((h3'.below bl).below (below_drewN (Below.refl _ _) m)) ((h3.below bl).below (below_drewN (Below.refl _ _) m)) hbig

set_option maxHeartbeats 1000000 in
theorem walk_splits_some (ad : Addr) (n c : Nat) (ws : List Int) (T : Int) (w : World) (h : Rd w (some ad) n ws) (hn : n ≤ 60 ∨ 1000 < n) (hbig : n * 8 ≤ 140737488351232) (hr : ∀ n, n ∈ ws → I64 n) (hT : I64 T) (b : Bool) (hb : b = true ↔ Ng ws) :
    Calls Try.prog 6 #[.int .i64 T, .slice (some ad) n c] w fun e w' => e = .returned (.bool true) ∧ Below w.heap.size w w' := by
  have H := Lib.hid h
  have HR := Lib.hid hr
  have HT := Lib.hid hT
  have HB := Lib.hid hb
  have O := Lib.hid (own_empty w)
  have hl : Hid ((ws.map (Value.int .i64)).length = n * 1) := Lib.hid (by rw [List.length_map, h.1, Nat.mul_one])
  have hnews : Hid (∀ j u, (ws.map (Value.int .i64))[j]? = some u → (w.alloc (.cells #[] 2)).cell? (ad.add j) = some u) := Lib.hid (by
    intro j u hj
    have hjl : j < ws.length := by have := (List.getElem?_eq_some_iff.1 hj).1; simpa using this
    obtain ⟨b, o, e, hc⟩ := (h.below (Below.alloc (Below.refl _ w) (Nat.le_refl _) (.cells #[] 2))).2 (by have := h.1; omega)
    cases e
    rw [Addr.add_mid, hc j (by have := h.1; omega), ← hj]
    simp [List.getD, hjl])
  have h1 : Hid (∀ u ∈ ws.map (Value.int .i64), u.oneCell' = true) := Lib.hid (by intro u hu; obtain ⟨z, _, rfl⟩ := List.mem_map.1 hu; rfl)
  obtain ⟨i0, hi0, hz0, hz1, hz2⟩ := info_parts info_int
  clear h hr hT hb
  rcases hn with hn | hn
  all_goals
    go_enter Try.func6, Try.ntmps6
    go_wp2_with (at_builtin; refine wpList_append_own _ rfl (.tmp 19) (.tmp 20) _ rfl w.heap.size 2 i0 (.int .i64 0) 1 8 Try.underlying28 hi0 hz0 hz1 hz2 rfl (by decide) (.slice (some ⟨w.heap.size, 0, none⟩) 0 0) 0 [] rfl O.out ad n c (ws.map (Value.int .i64)) rfl hl.out hnews.out h1.out (by unfold maxLen; omega) (by omega) (by simp) ?_; intro v2 w2 hown2 hgrow2 _)
    have hz' := H.out.1
    simp only [Nat.zero_add, List.nil_append] at hown2
    obtain ⟨A', c', hv, hrd⟩ := rd_own hown2 hz'
    have hbw : Below w.heap.size w w2 := ((Below.refl _ w).alloc (Nat.le_refl _) _).grown hgrow2 (by simp) (by intro k hk; simp [Value.ownBlock] at hk; omega)
    have TW := two_any T (some ad) A' n c c' ws w w2 (H.out.below hbw) hrd HR.out HT.out (by omega) b HB.out hbw
    unfold Two at TW
    have TW := Lib.hid TW
    rw [hv]
    clear hv hown2 hgrow2 hrd hbw hz' H HR O hl hnews h1 hi0 hz0 hz1 hz2 HB HT
    refine TW.out.mono ?_; rintro e w3 ⟨er, A1, n1, rfl, T3⟩
    have T3 := Lib.hid T3
    clear TW
    go_wp2_with fail
    refine T3.out.mono ?_; rintro e w4 ⟨A2, c2, rfl, b4, T4⟩
    have T4 := Lib.hid T4
    have B4 := Lib.hid b4
    clear T3 b4
    go_wp2_with fail
    refine T4.out.mono ?_; rintro e w5 ⟨rfl, ⟨m, rfl⟩, T5⟩
    have T5 := Lib.hid T5
    clear T4
    go_wp2_with fail
    refine T5.out.mono ?_; rintro e w6 ⟨rfl, m2, rfl⟩
    have B6 := Lib.hid (below_drewN B4.out (m + m2))
    clear T5 B4
    go_wp2_with fail
    refine (known_any _).mono ?_; rintro e w7 ⟨rfl, q7⟩
    go_wp2_with fail
    go_ret
    exact ⟨rfl, B6.out.trans (q7.2.mono B6.out.size)⟩

set_option maxHeartbeats 1000000 in
theorem walk_splits_none (T : Int) (w : World) (hT : I64 T) :
    Calls Try.prog 6 #[.int .i64 T, .slice none 0 0] w fun e w' => e = .returned (.bool true) ∧ Below w.heap.size w w' := by
  have HB := Below.alloc (Below.refl _ w) (Nat.le_refl _) (.cells #[] 2)
  have TW := two_any T none (some ⟨w.heap.size, 0, none⟩) 0 0 0 [] w _ (none_rd _) ⟨rfl, fun h => absurd h (Nat.lt_irrefl 0)⟩ (by intro n hn; cases hn) hT (by omega) false ⟨fun e => (by cases e), fun ⟨t, t1, _⟩ => absurd t1 (Nat.not_lt_zero t)⟩ HB
  unfold Two at TW
  have TW := Lib.hid TW
  clear HB hT
  go_enter Try.func6, Try.ntmps6
  go_wp2_with fail
  refine TW.out.mono ?_; rintro e w3 ⟨er, A1, n1, rfl, T3⟩
  have T3 := Lib.hid T3
  clear TW
  go_wp2_with fail
  refine T3.out.mono ?_; rintro e w4 ⟨A2, c2, rfl, b4, T4⟩
  have T4 := Lib.hid T4
  have B4 := Lib.hid b4
  clear T3 b4
  go_wp2_with fail
  refine T4.out.mono ?_; rintro e w5 ⟨rfl, ⟨m, rfl⟩, T5⟩
  have T5 := Lib.hid T5
  clear T4
  go_wp2_with fail
  refine T5.out.mono ?_; rintro e w6 ⟨rfl, m2, rfl⟩
  have B6 := Lib.hid (below_drewN B4.out (m + m2))
  clear T5 B4
  go_wp2_with fail
  refine (known_any _).mono ?_; rintro e w7 ⟨rfl, q7⟩
  go_wp2_with fail
  go_ret
  exact ⟨rfl, B6.out.trans (q7.2.mono B6.out.size)⟩

theorem walk_splits (T : Int) (a : Option Addr) (len cap : Nat) (zs : List Int) (w : World) (hT : (Lit.int .i64 T).wf = true) (hbig : len * 8 ≤ 140737488351232)
    (h : (a = none ∧ len = 0 ∧ cap = 0 ∧ zs = []) ∨ ∃ x, a = some x ∧ len ≤ cap ∧ cap ≤ maxLen ∧ zs.length = cap ∧ (∀ i, i < zs.length → w.cell? (x.add i) = some (.int .i64 (zs.getD i 0))) ∧ ∀ n ∈ zs, (Lit.int .i64 n).wf = true) :
    Calls Try.prog 6 #[.int .i64 T, .slice a len cap] w fun e w' => e = .returned (.bool true) ∧ Below w.heap.size w w' := by
  obtain ⟨h1, h2, h3⟩ := rd_in h
  by_cases hn : 60 < len ∧ len ≤ 1000
  · exact splits_known a len cap T w hn.1 hn.2
  · cases a with
    | none =>
      obtain ⟨rfl, rfl⟩ := h3 rfl
      exact walk_splits_none T w (bounds_i64 hT)
    | some ad =>
      by_cases hg : Ng (zs.take len)
      · exact walk_splits_some ad len cap _ T w h1 (by omega) hbig h2 (bounds_i64 hT) true ⟨fun _ => hg, fun _ => rfl⟩
      · exact walk_splits_some ad len cap _ T w h1 (by omega) hbig h2 (bounds_i64 hT) false ⟨fun e => (by cases e), fun e => absurd e hg⟩
end Go.Proofs.Ytgjaknfphokjpaa
