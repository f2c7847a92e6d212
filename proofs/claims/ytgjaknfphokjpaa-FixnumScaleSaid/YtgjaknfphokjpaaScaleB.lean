/- The walk of the statement FixnumScale, its end: it returns true for every total, every list of weights and every factor, and leaves the memory that was there as it was. -/
import Derived.Test.YtgjaknfphokjpaaScale
namespace Go.Proofs.Ytgjaknfphokjpaa
open Go.RowKit Go.Sort

theorem take_snoc (ws : List Int) (c : Int) (k : Nat) (h : k < ws.length) : ((ws.map (· * c)).take (k + 1)).map (Value.int .i64) = ((ws.map (· * c)).take k).map (Value.int .i64) ++ [.int .i64 (ws.getD k 0 * c)] := by
  have h1 : k < (ws.map (· * c)).length := by rw [List.length_map]; exact h
  rw [List.take_add_one, List.getElem?_eq_getElem h1, List.map_append]
  simp [List.getD, h]
theorem len_take (ws : List Int) (c : Int) (k n : Nat) (h : ws.length = n) (hk : k ≤ n) : (((ws.map (· * c)).take k).map (Value.int .i64)).length = k := by
  rw [List.length_map, List.length_take, List.length_map]; omega

set_option maxHeartbeats 1000000 in
theorem scale_walk (A : Option Addr) (n c : Nat) (ws : List Int) (T x : Int) (w : World) (h : Rd w A n ws) (hr : ∀ n, n ∈ ws → I64 n) (hT : I64 T) (hn : n ≤ 200) (h1 : 1 ≤ x) (h2 : x ≤ 1000) :
    Calls Try.prog 11 #[.int .i64 T, .slice A n c, .int .i64 x] w fun e w' => e = .returned (.bool true) ∧ Below w.heap.size w w' := by
  have hl := h.1
  have H := Lib.hid h
  have HR := Lib.hid hr
  have HT := Lib.hid hT
  obtain ⟨i0, hi0, hz0, hz1, hz2⟩ := info_parts info_int
  clear h hr hT
  go_enter Try.func11, Try.ntmps11
  go_wp2_with fail
  go_loopw [7, 8, 28] (fun v _ i wr => ∃ k : Nat, k ≤ n ∧ i = .int .i64 k ∧ wr.ownsRow w.heap.size 2 1 v k (((ws.map (· * x)).take k).map (Value.int .i64)) ∧ Below w.heap.size w wr ∧ (∀ t, t < k → 0 ≤ ws.getD t 0 ∧ ws.getD t 0 ≤ 1099511627776)) (fun _ _ i _ => n - (intOf i).toNat)
  case atStart => exact ⟨0, Nat.zero_le _, rfl, World.ownsRow_nil _ _ _ _, Below.refl _ _, fun t ht => absurd ht (Nat.not_lt_zero t)⟩
  case round =>
    obtain ⟨k, hk, rfl, hown, hB, hall⟩ := hrel
    have HALL := Lib.hid hall
    have HB := Lib.hid hB
    have HO := Lib.hid hown
    clear hall hB hown
    by_cases hlt : k < n
    · obtain ⟨b, o, rfl, hc⟩ := (H.out.below HB.out).2 (by omega)
      have hcell := hc k hlt
      clear hc
      obtain ⟨y, hy⟩ : ∃ y, ws.getD k 0 = y := ⟨_, rfl⟩
      rw [hy] at hcell
      have HY := Lib.hid hy
      clear hy
      by_cases n1 : y < 0
      · go_wp2_with fail
        refine (known_any _).mono ?_; rintro e w1 ⟨rfl, q5⟩
        go_wp2_with fail
        go_ret
        exact ⟨rfl, HB.out.trans (q5.2.mono HB.out.size)⟩
      by_cases n2 : 1099511627776 < y
      · go_wp2_with fail
        refine (known_any _).mono ?_; rintro e w1 ⟨rfl, q5⟩
        go_wp2_with fail
        go_ret
        exact ⟨rfl, HB.out.trans (q5.2.mono HB.out.size)⟩
      have hp1 : 0 ≤ y * x := Int.mul_nonneg (by omega) (by omega)
      have hp2 : y * x ≤ 1099511627776 * 1000 := Int.mul_le_mul (by omega) h2 (by omega) (by omega)
      have N1 : Hid (∀ j u, ([.int .i64 (y * x)] : List Value)[j]? = some u → (wr.alloc (.cells #[.int .i64 (y * x)] 2)).cell? ((⟨wr.heap.size, 0, none⟩ : Addr).add j) = some u) := Lib.hid (by
        intro j u hj
        match j, hj with
        | 0, hj => simp at hj; subst hj; simp [Addr.add])
      have N2 : Hid (∀ u ∈ ([.int .i64 (y * x)] : List Value), u.oneCell' = true) := Lib.hid (by intro u hu; simp at hu; subst hu; rfl)
      have hbs := HB.out.size
      obtain ⟨xs, hxs⟩ : ∃ xs, ((ws.map (· * x)).take k).map (Value.int .i64) = xs := ⟨_, rfl⟩
      have e1 := take_snoc ws x k (by rw [hl]; exact hlt)
      rw [HY.out, hxs] at e1
      rw [hxs] at HO
      have E1 := Lib.hid e1
      clear hxs e1
      go_wp2_with (at_builtin; refine wpList_append_own _ rfl _ _ 28 rfl w.heap.size 2 i0 (.int .i64 0) 1 8 Try.underlying28 hi0 hz0 hz1 hz2 rfl (by decide) _ _ _ rfl (HO.out.alloc _) ⟨wr.heap.size, 0, none⟩ 1 1 [.int .i64 (y * x)] rfl rfl N1.out N2.out (by unfold maxLen; omega) (by omega) (by simp; omega) ?_)
      clear N1 N2
      intro v' w1 hown' hgrow _
      rw [← E1.out] at hown'
      have HO' := Lib.hid hown'
      have HB' := Lib.hid ((HB.out.alloc HB.out.size _).grown hgrow (by have := HB.out.size; simp; omega) (fun j hj => (HO.out.lt j hj).1))
      clear hown' hgrow E1
      go_wp2_with fail
      go_roundw
      case rel => exact ⟨k + 1, hlt, by go_num, HO'.out, HB'.out, fun t ht => by
        rcases Nat.lt_succ_iff_lt_or_eq.1 ht with h3 | rfl
        · exact HALL.out t h3
        · rw [HY.out]; omega⟩
      case measure => simp [intOf]; omega
    · obtain rfl : k = n := by omega
      have hsc := Lib.hid (show Sc ws x from ⟨by omega, h1, h2, by rw [hl]; exact HALL.out⟩)
      have hv : (ws.map (· * x)).take k = ws.map (· * x) := List.take_of_length_le (by rw [List.length_map]; omega)
      rw [hv] at HO
      obtain ⟨A', c', hve, hrd⟩ := rd_own HO.out (by rw [List.length_map]; exact hl)
      have hb1 : false = true ↔ Ng ws := by
        constructor
        · intro h; cases h
        · rintro ⟨t, t1, t2⟩
          have := HALL.out t (by rw [← hl]; exact t1)
          omega
      have hb2 : false = true ↔ Ng (ws.map (· * x)) := by
        constructor
        · intro h; cases h
        · rintro ⟨t, t1, t2⟩
          rw [List.length_map] at t1
          rw [getD_mul] at t2
          have h3 := HALL.out t (by rw [← hl]; exact t1)
          have := Int.mul_nonneg h3.1 (show 0 ≤ x by omega)
          omega
      have hi2 : ∀ n, n ∈ ws.map (· * x) → I64 n := fun z hz => by
        obtain ⟨t, t1, rfl⟩ := List.getElem_of_mem hz
        have t2 : t < ws.length := by rw [List.length_map] at t1; exact t1
        have e : (ws.map (· * x))[t] = ws.getD t 0 * x := by
          rw [List.getElem_map]
          simp [List.getD, t2]
        rw [e]
        rw [List.length_map] at t1
        have h3 := HALL.out t (by rw [← hl]; exact t1)
        have h4 := Int.mul_nonneg h3.1 (show 0 ≤ x by omega)
        have h5 := Int.mul_le_mul h3.2 h2 (by omega) (by decide : (0 : Int) ≤ 1099511627776)
        unfold I64
        omega
      have S1 := Lib.hid (split_any A k c ws T wr (H.out.below HB.out) HR.out HT.out (by omega) false hb1)
      have S2 := Lib.hid fun W R => split_any A' k c' (ws.map (· * x)) T W R hi2 HT.out (by omega) false hb2
      have RD := Lib.hid hrd
      rw [hve]
      clear hve hrd hv HO hb1 hb2 hi2 hi0 hz0 hz1 hz2
      go_wp2_with fail
      refine S1.out.mono ?_; rintro e w1 ⟨g1, k1, ⟨A1, n1, c1, zs1, rfl, r1, p1, q1⟩, u1⟩
      have K1 := Lib.hid k1
      have U1 := Lib.hid u1
      have RR1 := Lib.hid r1
      have P1 := Lib.hid p1
      have Q1 := Lib.hid q1
      clear k1 u1 r1 p1 q1 S1
      have S3 := Lib.hid (S2.out w1 (RD.out.below U1.out.2))
      clear S2
      go_wp2_with fail
      refine S3.out.mono ?_; rintro e w2 ⟨g2, k2, ⟨A2, n2, c2, zs2, rfl, r2, p2, q2⟩, u2⟩
      have E := sc_se hsc.out T
      rw [E] at k2 p2 q2
      obtain ⟨er, her⟩ : ∃ er, se T ws false = er := ⟨_, rfl⟩
      have hz : Hid (zs2 = zs1) := Lib.hid (by
        by_cases h0 : se T ws false = 0
        · have hT0 : 0 ≤ T := by
            unfold se at h0
            by_cases ht : T < 0
            · rw [if_pos ht] at h0; split at h0 <;> cases h0
            · omega
          rw [p2 h0, P1.out h0]
          exact sc_pt hsc.out hT0 (K1.out h0) (k2 h0)
        · rw [(q2 h0).2.2, (Q1.out h0).2.2])
      have hn1 : n1 ≤ 200 := by
        rw [← RR1.out.1]
        by_cases h0 : se T ws false = 0
        · rw [P1.out h0]; unfold pt; rw [List.length_map, List.length_range]; omega
        · rw [(Q1.out h0).2.2]; exact Nat.zero_le _
      have hnn : n2 = n1 := by rw [← r2.1, ← RR1.out.1, hz.out]
      subst hnn
      have RR2 := Lib.hid r2
      have RR1' := Lib.hid (RR1.out.below u2.2)
      have BB := Lib.hid ((HB.out.trans (U1.out.2.mono HB.out.size)).trans (u2.2.mono (Nat.le_trans HB.out.size U1.out.2.size)))
      clear k2 p2 q2 r2 u2 K1 P1 Q1 S3
      rw [E, her]
      clear E her
      go_wp2_with fail
      go_loopw [13, 78] (fun _ i wr2 => ∃ j m : Nat, j ≤ n2 ∧ i = .int .i64 j ∧ wr2 = w2.drewN m) (fun _ i _ => n2 - (intOf i).toNat)
      case atStart => exact ⟨0, 0, Nat.zero_le _, rfl, rfl⟩
      case round =>
        obtain ⟨j, m, hj, rfl, rfl⟩ := hrel
        by_cases hjl : j < n2
        · obtain ⟨b1, o1, rfl, d1⟩ := RR1'.out.2 (by omega)
          obtain ⟨b2, o2, rfl, d2⟩ := RR2.out.2 (by omega)
          have e1 := d1 j hjl
          have e2 := d2 j hjl
          rw [hz.out] at e2
          obtain ⟨v, hv⟩ : ∃ v, zs1.getD j 0 = v := ⟨_, rfl⟩
          rw [hv] at e1 e2
          clear d1 d2 hv
          go_wp2
          go_quiet (fail)
          go_wp2
          go_roundw
          case rel => exact ⟨j + 1, _, hjl, by go_num, by first | rfl | exact World.drewN_drewN _ _ _⟩
          case measure => simp [intOf]; omega
        · go_wp2_with fail
          refine (known_any _).mono ?_; rintro e w5 ⟨rfl, q5⟩
          go_wp2_with fail
          go_ret
          exact ⟨rfl, (below_drewN BB.out m).trans (q5.2.mono (below_drewN BB.out m).size)⟩

set_option maxHeartbeats 1000000 in
/-- More weights than are looked at, or another factor. -/
theorem scale_out (A : Option Addr) (n c : Nat) (T x : Int) (w : World) (hn : n ≤ 9223372036854775807) (h : 200 < n ∨ x < 1 ∨ 1000 < x) :
    Calls Try.prog 11 #[.int .i64 T, .slice A n c, .int .i64 x] w fun e w' => e = .returned (.bool true) ∧ Below w.heap.size w w' := by
  by_cases c1 : 200 < n
  · go_enter Try.func11, Try.ntmps11
    go_wp2_with fail
    refine (known_any _).mono ?_; rintro e w1 ⟨rfl, q5⟩
    go_wp2_with fail
    go_ret
    exact ⟨rfl, q5.2⟩
  by_cases c2 : x < 1
  · clear h
    go_enter Try.func11, Try.ntmps11
    go_wp2_with fail
    refine (known_any _).mono ?_; rintro e w1 ⟨rfl, q5⟩
    go_wp2_with fail
    go_ret
    exact ⟨rfl, q5.2⟩
  · have c3 : 1000 < x := by omega
    clear h
    go_enter Try.func11, Try.ntmps11
    go_wp2_with fail
    refine (known_any _).mono ?_; rintro e w1 ⟨rfl, q5⟩
    go_wp2_with fail
    go_ret
    exact ⟨rfl, q5.2⟩
theorem walk_scale (T : Int) (a : Option Addr) (len cap : Nat) (zs : List Int) (x : Int) (w : World) (hT : (Lit.int .i64 T).wf = true)
    (h : (a = none ∧ len = 0 ∧ cap = 0 ∧ zs = []) ∨ ∃ x, a = some x ∧ len ≤ cap ∧ cap ≤ maxLen ∧ zs.length = cap ∧ (∀ i, i < zs.length → w.cell? (x.add i) = some (.int .i64 (zs.getD i 0))) ∧ ∀ n ∈ zs, (Lit.int .i64 n).wf = true) :
    Calls Try.prog 11 #[.int .i64 T, .slice a len cap, .int .i64 x] w fun e w' => e = .returned (.bool true) ∧ Below w.heap.size w w' := by
  obtain ⟨h1, h2, h3⟩ := rd_in h
  have hb : len ≤ 9223372036854775807 := by
    rcases h with ⟨_, rfl, _, _⟩ | ⟨x, _, hl, hm, _⟩
    · omega
    · unfold maxLen at hm; omega
  by_cases hn : 200 < len ∨ x < 1 ∨ 1000 < x
  · exact scale_out a len cap T x w hb hn
  · exact scale_walk a len cap _ T x w h1 h2 (bounds_i64 hT) (by omega) (by omega) (by omega)
end Go.Proofs.Ytgjaknfphokjpaa
