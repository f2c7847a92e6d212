/- The walk of the statement FixnumAll, its end: it returns true for every list of int64 numbers, and leaves the memory that was there as it was. -/
import Derived.Test.YtgjaknfphokjpaaAll
namespace Go.Proofs.Ytgjaknfphokjpaa
open Go.RowKit

theorem info_int : (Try.prog.info? 2).map (fun i => (i.zero, i.size, i.bytes)) = some (some (.int .i64 0), 1, 8) := by kernel_rfl

set_option maxHeartbeats 1000000 in
theorem walk_all_long (A : Option Addr) (n c : Nat) (w : World) (h : 2000 < n) (hbig : n ≤ 9223372036854775807) :
    Calls Try.prog 4 #[.slice A n c] w fun e w' => e = .returned (.bool true) ∧ Below w.heap.size w w' := by
  go_enter Try.func4, Try.ntmps4
  go_wp2_with fail
  refine (known_any _).mono ?_; rintro e w1 ⟨rfl, hq⟩
  go_wp2_with fail
  go_ret
  exact ⟨rfl, hq.2⟩

/-- The copy of a list that the statement makes. -/
theorem rd_own {w : World} {base n : Nat} {v : Value} {zs : List Int} (h : w.ownsRow base 2 1 v n (zs.map (Value.int .i64))) (hz : zs.length = n) : ∃ A c, v = .slice A n c ∧ Rd w A n zs := by
  rcases h.2 with ⟨rfl, rfl⟩ | ⟨g, cap, cur, rfl, _, _⟩
  · exact ⟨none, 0, rfl, hz, fun h => absurd h (Nat.lt_irrefl 0)⟩
  · refine ⟨some ⟨g, 0, none⟩, cap, rfl, hz, fun _ => ⟨g, 0, rfl, fun j hj => ?_⟩⟩
    rw [Nat.zero_add, h.cellAt j (by omega)]
    simp [List.getD, show j < zs.length by omega]

theorem own_empty (w : World) : (w.alloc (.cells #[] 2)).ownsRow w.heap.size 2 1 (.slice (some ⟨w.heap.size, 0, none⟩) 0 0) 0 [] :=
  ⟨rfl, .inr ⟨w.heap.size, 0, #[], rfl, Nat.le_refl _, heap_alloc_new w _, Nat.le_refl _, by unfold maxLen; omega, rfl, rfl⟩⟩
/-- What follows the copy. -/
theorem all_rest (A A' : Option Addr) (n c c' : Nat) (zs : List Int) (w w2 : World) (h : Rd w2 A n zs) (h' : Rd w2 A' n zs) (hn : n ≤ 2000) (hr : ∀ n, n ∈ zs → I64 n) (hb : Below w.heap.size w w2) :
    Hid (Rd w2 A n zs) ∧ Hid (Rd w2 A' n zs) ∧ Hid (∀ W, W = w2 → Calls Try.prog 20 #[.slice A' n c'] W fun e w' => e = .returned (.tuple #[.int .i64 (tN (sm zs)), .int .i64 (tE (sm zs))]) ∧ w2 = w') ∧
      Hid (Calls Try.prog 21 #[.slice A n c] w2 fun e w' => e = .returned (.tuple #[.int .i64 (tN (sm zs)), .int .i64 (tE (sm zs))]) ∧ Quiet w2 w') ∧ Hid (Below w.heap.size w w2) :=
  ⟨h, h', fun W hW => by subst hW; exact fsum_any A' n c' zs W h' (by omega) hr, rsum_any A n c zs w2 h (by omega) hr, hb⟩

set_option maxHeartbeats 1000000 in
theorem walk_all_some (ad : Addr) (n c : Nat) (zs : List Int) (w : World) (h : Rd w (some ad) n zs) (hn : n ≤ 2000) (hr : ∀ n, n ∈ zs → I64 n) :
    Calls Try.prog 4 #[.slice (some ad) n c] w fun e w' => e = .returned (.bool true) ∧ Below w.heap.size w w' := by
  have H := Lib.hid h
  have HR := Lib.hid hr
  have O := Lib.hid (own_empty w)
  have hl : Hid ((zs.map (Value.int .i64)).length = n * 1) := Lib.hid (by rw [List.length_map, h.1, Nat.mul_one])
  have hnews : Hid (∀ j u, (zs.map (Value.int .i64))[j]? = some u → (w.alloc (.cells #[] 2)).cell? (ad.add j) = some u) := Lib.hid (by
    intro j u hj
    have hjl : j < zs.length := by have := (List.getElem?_eq_some_iff.1 hj).1; simpa using this
    obtain ⟨b, o, e, hc⟩ := (h.below (Below.alloc (Below.refl _ w) (Nat.le_refl _) (.cells #[] 2))).2 (by have := h.1; omega)
    cases e
    rw [Addr.add_mid, hc j (by have := h.1; omega), ← hj]
    simp [List.getD, hjl])
  have h1 : Hid (∀ u ∈ zs.map (Value.int .i64), u.oneCell' = true) := Lib.hid (by intro u hu; obtain ⟨z, _, rfl⟩ := List.mem_map.1 hu; rfl)
  obtain ⟨i0, hi0, hz0, hz1, hz2⟩ := info_parts info_int
  clear h hr
  go_enter Try.func4, Try.ntmps4
  go_wp2_with (at_builtin; refine wpList_append_own _ rfl (.tmp 12) (.tmp 13) _ rfl w.heap.size 2 i0 (.int .i64 0) 1 8 Try.underlying28 hi0 hz0 hz1 hz2 rfl (by decide) (.slice (some ⟨w.heap.size, 0, none⟩) 0 0) 0 [] rfl O.out ad n c (zs.map (Value.int .i64)) rfl hl.out hnews.out h1.out (by unfold maxLen; omega) (by omega) (by simp) ?_; intro v2 w2 hown2 hgrow2 _)
  have hz' := H.out.1
  simp only [Nat.zero_add, List.nil_append] at hown2
  obtain ⟨A', c', hv, hrd⟩ := rd_own hown2 hz'
  have hbw : Below w.heap.size w w2 := ((Below.refl _ w).alloc (Nat.le_refl _) _).grown hgrow2 (by simp) (by intro k hk; simp [Value.ownBlock] at hk; omega)
  obtain ⟨k1, k2, k3, k4, k5⟩ := all_rest (some ad) A' n c c' zs w w2 (H.out.below hbw) hrd hn HR.out hbw
  rw [hv]
  clear hv hown2 hgrow2 hrd hbw hz' H HR O hl hnews h1 hi0 hz0 hz1 hz2
  refine (k3.out _ rfl).mono ?_; rintro e w3 ⟨rfl, rfl⟩
  go_wp2_with fail
  refine k4.out.mono ?_; rintro e w3 ⟨rfl, q3⟩
  have S := Lib.hid (same_any A' (some ad) n c' c zs w3 (k2.out.below q3.2) (k1.out.below q3.2) (by omega))
  have B3 := Lib.hid (k5.out.trans (q3.2.mono k5.out.size))
  clear q3
  go_wp2_with fail
  refine S.out.mono ?_; rintro e w4 ⟨rfl, m, rfl⟩
  go_wp2_with fail
  refine (known_any _).mono ?_; rintro e w5 ⟨rfl, q5⟩
  go_wp2_with fail
  go_ret
  exact ⟨rfl, (below_drewN B3.out m).trans (q5.2.mono (below_drewN B3.out m).size)⟩

set_option maxHeartbeats 1000000 in
theorem walk_all_none (w : World) :
    Calls Try.prog 4 #[.slice none 0 0] w fun e w' => e = .returned (.bool true) ∧ Below w.heap.size w w' := by
  have HB := Lib.hid (Below.alloc (Below.refl _ w) (Nat.le_refl _) (.cells #[] 2))
  have R1 : ∀ W, Hid (Rd W none 0 []) := fun W => Lib.hid ⟨rfl, fun h => absurd h (Nat.lt_irrefl 0)⟩
  have R2 : ∀ W, Hid (Rd W (some ⟨w.heap.size, 0, none⟩) 0 []) := fun W => Lib.hid ⟨rfl, fun h => absurd h (Nat.lt_irrefl 0)⟩
  have S2 := Lib.hid (fun W => rsum_any none 0 0 [] W (R1 W).out (by omega) (by intro n hn; cases hn))
  have S1 := Lib.hid (fun W => fsum_any (some ⟨w.heap.size, 0, none⟩) 0 0 [] W (R2 W).out (by omega) (by intro n hn; cases hn))
  have S3 := Lib.hid (fun W => same_any (some ⟨w.heap.size, 0, none⟩) none 0 0 0 [] W (R2 W).out (R1 W).out (by omega))
  clear R1 R2
  go_enter Try.func4, Try.ntmps4
  go_wp2_with fail
  refine (S1.out _).mono ?_; rintro e w3 ⟨rfl, rfl⟩
  go_wp2_with fail
  refine (S2.out _).mono ?_; rintro e w3 ⟨rfl, q3⟩
  have B3 := Lib.hid (HB.out.trans (q3.2.mono (by simp)))
  clear q3
  go_wp2_with fail
  refine (S3.out _).mono ?_; rintro e w4 ⟨rfl, m, rfl⟩
  go_wp2_with fail
  refine (known_any _).mono ?_; rintro e w5 ⟨rfl, q5⟩
  go_wp2_with fail
  go_ret
  exact ⟨rfl, (below_drewN B3.out m).trans (q5.2.mono (below_drewN B3.out m).size)⟩

/-- A list that came in, as the row's step hands it over. -/
theorem rd_in {w : World} {a : Option Addr} {len cap : Nat} {zs : List Int}
    (h : (a = none ∧ len = 0 ∧ cap = 0 ∧ zs = []) ∨ ∃ x, a = some x ∧ len ≤ cap ∧ cap ≤ maxLen ∧ zs.length = cap ∧ (∀ i, i < zs.length → w.cell? (x.add i) = some (.int .i64 (zs.getD i 0))) ∧ ∀ n ∈ zs, (Lit.int .i64 n).wf = true) :
    Rd w a len (zs.take len) ∧ (∀ n, n ∈ zs.take len → I64 n) ∧ (a = none → len = 0 ∧ cap = 0) := by
  rcases h with ⟨rfl, rfl, rfl, rfl⟩ | ⟨x, rfl, hl, _, hz, hc, hw⟩
  · exact ⟨⟨rfl, fun h => absurd h (Nat.lt_irrefl 0)⟩, by intro n hn; simp at hn, fun _ => ⟨rfl, rfl⟩⟩
  · refine ⟨⟨by rw [List.length_take]; omega, fun hn => ?_⟩, fun n hn => bounds_i64 (hw n (List.mem_of_mem_take hn)), fun h => by cases h⟩
    obtain ⟨b, off, rfl, hc'⟩ := ints_at hc (by omega)
    refine ⟨b, off, rfl, fun j hj => ?_⟩
    rw [hc' j (by omega)]
    simp [List.getD, hj]

theorem walk_all (a : Option Addr) (len cap : Nat) (zs : List Int) (w : World)
    (h : (a = none ∧ len = 0 ∧ cap = 0 ∧ zs = []) ∨ ∃ x, a = some x ∧ len ≤ cap ∧ cap ≤ maxLen ∧ zs.length = cap ∧ (∀ i, i < zs.length → w.cell? (x.add i) = some (.int .i64 (zs.getD i 0))) ∧ ∀ n ∈ zs, (Lit.int .i64 n).wf = true) :
    Calls Try.prog 4 #[.slice a len cap] w fun e w' => e = .returned (.bool true) ∧ Below w.heap.size w w' := by
  obtain ⟨h1, h2, h3⟩ := rd_in h
  by_cases hn : len ≤ 2000
  · cases a with
    | none =>
      obtain ⟨rfl, rfl⟩ := h3 rfl
      exact walk_all_none w
    | some ad => exact walk_all_some ad len cap _ w h1 hn h2
  · have hb : len ≤ 9223372036854775807 := by
      rcases h with ⟨_, rfl, _, _⟩ | ⟨x, _, hl, hm, _⟩
      · omega
      · unfold maxLen at hm; omega
    exact walk_all_long a len cap w (by omega) hb
end Go.Proofs.Ytgjaknfphokjpaa
