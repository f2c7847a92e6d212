/- The walk of the statement WireReads. -/
import Derived.Test.YtehmheohojnpmaaNx
namespace Go.Proofs.Ytehmheohojnpmaa
open Go.RowKit

/-- The asks as they lie in memory: kinds and bounds, by turns. -/
def Asks (w : World) (A : Option Addr) (n : Nat) (kf mf : Nat → Int) : Prop :=
  (∀ j, j < n → -9223372036854775808 ≤ mf j ∧ mf j ≤ 9223372036854775807) ∧ (0 < n → ∃ b o, A = some ⟨b, o, none⟩ ∧ ∀ j, j < n → w.cell? ⟨b, o + j * 2, none⟩ = some (.int .i64 (kf j)) ∧ w.cell? ⟨b, o + j * 2 + 1, none⟩ = some (.int .i64 (mf j)))
theorem owns_at {U : World} {base n c : Nat} {A : Option Addr} {bs : List Int} (o : U.ownsRow base 5 1 (.slice A n c) bs.length (bs.map (Value.int .u8))) : RdB U A n bs := by
  obtain ⟨A', c', e, r⟩ := owns_rd o
  cases e
  exact r
theorem wrap_u (m : Int) : 0 ≤ IntKind.u64.wrap m ∧ IntKind.u64.wrap m ≤ 18446744073709551615 := by rw [IntKind.wrap_u64]; omega

set_option maxRecDepth 100000 in
set_option maxHeartbeats 16000000 in
theorem reads_walk (A B : Option Addr) (n c m d : Nat) (bs : List Int) (kf mf : Nat → Int) (w : World) (h : RdB w A n bs) (hy : By bs) (h2 : Asks w B m kf mf) (hn : n ≤ 100000) (hc : n ≤ c) (hm : m ≤ 5000) (h0 : A = none → n = 0 ∧ c = 0) :
    Calls Try.prog 4 #[.slice A n c, .slice B m d] w fun e w' => e = .returned (.bool true) ∧ Below w.heap.size w w' := by
  have HA := Lib.hid h
  have H2 := Lib.hid h2
  have HY := Lib.hid hy
  have hl := h.1
  have HL := Lib.hid hl
  have HC := Lib.hid hc
  have LT := Lib.hid (lent_any A n c bs w h hn h0)
  clear h h2 hy hl h0 hc
  go_enter Try.func4, Try.ntmps4
  go_wp2_with fail
  refine LT.out.mono ?_; rintro e w1 ⟨v, rfl, gi, cap, rfl, ho, hq⟩
  have MR := Lib.hid (marked_rd HL.out ho)
  have NR := Lib.hid (newr_any (some ⟨gi, 0, none⟩) n cap bs w1 MR.out.1 (by omega) (fun h => by cases h))
  have HO := Lib.hid ho
  have HQ := Lib.hid hq
  clear ho hq LT MR
  go_wp2_with fail
  refine NR.out.mono ?_; rintro e w2 ⟨g, A1, k1, c1, rfl, hq1, hA1, hb1, hg1⟩
  have hsz : w1.heap.size < w2.heap.size := Nat.lt_of_le_of_lt hg1 hq1.lt
  have S0 : RS w (w2.heap.size + 1) g w2.heap.size gi cap n bs bs 0 bs 0 (w2.alloc (.cells #[.slice A n c, .int .i64 0] 42)) := by
    have B2 := HQ.out.trans (hb1.mono HQ.out.size)
    have ba := (Below.refl w2.heap.size w2).alloc (Nat.le_refl _) (.cells #[.slice A n c, .int .i64 0] 42)
    have ba' : Below w.heap.size w2 (w2.alloc (.cells #[.slice A n c, .int .i64 0] 42)) := ba.mono B2.size
    have ol := HO.out.lt gi rfl
    refine ⟨⟨A1, k1, c1, hq1.below ba, fun a ha => by have := (hA1 a ha).2; omega⟩, ⟨A, n, c, ⟨heap_alloc_new w2 _, ((HA.out.below B2).below ba), HC.out⟩, fun hn0 a ha => ?_⟩, ?_, B2.alloc B2.size _, ⟨by have := hq1.lt; omega, by omega, by omega, by rw [size_alloc]; omega⟩, ⟨Nat.le_trans HQ.out.size hg1, B2.size, ol.1⟩, ⟨by have := hq1.lt; omega, by omega, by omega⟩⟩
    · obtain ⟨b, o, e, hcc⟩ := HA.out.2 hn0
      rw [ha] at e; cases e
      have hlt0 : b < w.heap.size := World.block_lt_of_cell? w _ (hcc 0 hn0)
      have := B2.size
      show b < _
      omega
    · have o2 := HO.out.kept (row := none) ⟨hb1.os, hb1.tape, hb1.output, hb1.size, fun i hi _ => hb1.block i hi⟩ (by simp [Value.ownBlock])
      exact o2.alloc _
  have HS := Lib.hid S0
  clear S0 hq1 hA1 hb1 hg1 NR HO HQ
  go_wp2_with fail
  go_loopw [8, 9, 10, 11, 12, 33] (fun _ _ _ _ _ i wr => ∃ (j : Nat) (b : List Int) (e : Int), j ≤ m ∧ i = .int .i64 j ∧ By b ∧ b.length ≤ 100000 ∧ RS w (w2.heap.size + 1) g w2.heap.size gi cap n bs b e b e wr) (fun _ _ _ _ _ i _ => m - (intOf i).toNat)
  case atStart => exact ⟨0, bs, 0, Nat.zero_le _, rfl, HY.out, by rw [HL.out]; exact hn, HS.out⟩
  case round =>
    obtain ⟨j, b, e, hj, rfl, hyb, hlb, hs⟩ := hrel
    have HYB := Lib.hid hyb
    have HS := Lib.hid hs
    clear hyb hs
    by_cases hlt : j < m
    case neg =>
      obtain rfl : j = m := by omega
      have C1 := rs_done HS.out hlb
      have C2 := rq_done HS.out hlb
      obtain ⟨x, hx⟩ : ∃ x : Int, (if e = 0 ∧ 0 < b.length then 5 else e) = x := ⟨_, rfl⟩
      rw [hx] at C1 C2
      have D1 := Lib.hid C1
      have D2 := Lib.hid C2
      have K1 := Lib.hid (kept_any A gi cap n c w.heap.size bs _ (HA.out.below HS.out.b) hn HS.out.o)
      clear C1 C2 hx
      go_wp2_with fail
      refine D1.out.mono ?_; rintro e0 w3 ⟨rfl, rfl⟩
      go_wp2_with fail
      refine D2.out.mono ?_; rintro e0 w3 ⟨rfl, rfl⟩
      go_wp2_with fail
      refine K1.out.mono ?_; rintro e0 w3 ⟨rfl, rfl⟩
      go_wp2_with fail
      refine (known_own _).mono ?_; rintro e0 w4 ⟨rfl, q⟩
      have QB := Lib.hid (HS.out.b.trans (q.mono HS.out.b.size))
      clear q
      go_wp2_with fail
      go_ret
      exact ⟨rfl, QB.out⟩
    case pos =>
      obtain ⟨hbd, hcs⟩ := H2.out
      obtain ⟨ab, ao, rfl, hcells⟩ := hcs (by omega)
      have hk0 := (hcells j hlt).1
      have hm0 := (hcells j hlt).2
      have hk1 := (HS.out.b.cell (p := ⟨ab, ao + j * 2, none⟩) (World.block_lt_of_cell? w _ hk0)).trans hk0
      have hm1 := (HS.out.b.cell (p := ⟨ab, ao + j * 2 + 1, none⟩) (World.block_lt_of_cell? w _ hm0)).trans hm0
      have hbm := hbd j hlt
      obtain ⟨x, hx⟩ : ∃ x, kf j = x := ⟨_, rfl⟩
      obtain ⟨y, hyy⟩ : ∃ y, mf j = y := ⟨_, rfl⟩
      rw [hx] at hk1
      rw [hyy] at hm1 hbm
      obtain ⟨u, hu, hub⟩ : ∃ u, IntKind.u64.wrap y = u ∧ 0 ≤ u ∧ u ≤ 18446744073709551615 := ⟨_, rfl, wrap_u y⟩
      clear hk0 hm0 hcells hcs hbd hx hyy
      by_cases x1 : x = 1
      · subst x1
        clear hu hub
        have hb4 := sR_by HYB.out e top
        have C1 := rs_nat HS.out HYB.out hlb
        have C2 := fun W (s : RS w (w2.heap.size + 1) g w2.heap.size gi cap n bs (sR b e top).2.1 (sR b e top).2.2 b e W) => rq_nat s HYB.out hlb
        obtain ⟨⟨v4, b4, e4⟩, hr⟩ : ∃ r, sR b e top = r := ⟨_, rfl⟩
        simp only [hr] at C1 C2 hb4
        have HY4 := Lib.hid hb4.1
        have hl4 : b4.length ≤ 100000 := by omega
        have D1 := Lib.hid C1
        have D2 := Lib.hid C2
        clear C1 C2 hb4 hr
        go_wp2_with fail
        refine D1.out.mono ?_; rintro e0 w3 ⟨rfl, hs3⟩
        have HS3 := Lib.hid hs3
        clear hs3
        go_wp2_with fail
        refine (D2.out _ HS3.out).mono ?_; rintro e0 w4 ⟨rfl, hs4⟩
        have HS4 := Lib.hid hs4
        clear hs4 D1 D2 HS3
        go_wp2_with fail
        obtain ⟨A2, n2, c2, hq2, -⟩ := HS4.out.q
        obtain rfl : b4.length = n2 := hq2.r.1
        have HQ2 := Lib.hid hq2.c0
        clear hq2
        refine wp_region_held_drew (S := fun U => RS w (w2.heap.size + 1) g w2.heap.size gi cap n bs b4 e4 b4 e4 U ∧ U.cell? ⟨w2.heap.size, 0, none⟩ = some (.slice A2 b4.length c2)) (by kernel_rfl) ⟨HS4.out.keep (Below.refl _ _).drew, HQ2.out⟩ (fun hH => ?_)
        refine wpAnyH_take (i := 0) (v := .pointer (some ⟨g, 0, none⟩)) rfl (by kernel_rfl) (by kernel_rfl) (by kernel_rfl) (fun _ _ _ h => h) (.inl ⟨by rfl, ?_⟩) (by assumption) ?_
        · intro W hW; go_simp
        try simp only [List.getElem_toArray, List.getElem_cons_zero, Act.put, List.setIfInBounds_toArray, List.set_cons_zero, List.set_cons_succ]
        refine wpAnyH_take (i := 2) (v := .pointer (some ⟨w2.heap.size, 0, none⟩)) rfl (by kernel_rfl) (by kernel_rfl) (by kernel_rfl) (fun _ _ _ h => h) (.inl ⟨by rfl, ?_⟩) (by assumption) ?_
        · intro W hW; go_simp
        try simp only [List.getElem_toArray, List.getElem_cons_zero, List.getElem_cons_succ, Act.put, List.setIfInBounds_toArray, List.set_cons_zero, List.set_cons_succ]
        refine wpAnyH_take (i := 3) (v := .pointer (some ⟨w2.heap.size, 0, none⟩)) rfl (by kernel_rfl) (by kernel_rfl) (by kernel_rfl) (fun _ _ _ h => h) (.inl ⟨by rfl, ?_⟩) (by assumption) ?_
        · intro W hW; go_simp
        try simp only [List.getElem_toArray, List.getElem_cons_zero, List.getElem_cons_succ, Act.put, List.setIfInBounds_toArray, List.set_cons_zero, List.set_cons_succ]
        refine wpAnyH_take (i := 4) (v := .pointer (some ⟨w2.heap.size, 0, none⟩)) rfl (by kernel_rfl) (by kernel_rfl) (by kernel_rfl) (fun _ _ _ h => h) (.inl ⟨by rfl, ?_⟩) (by assumption) ?_
        · intro W hW; go_simp
        try simp only [List.getElem_toArray, List.getElem_cons_zero, List.getElem_cons_succ, Act.put, List.setIfInBounds_toArray, List.set_cons_zero, List.set_cons_succ]
        refine wpAnyH_take (i := 5) (v := .slice A2 b4.length c2) rfl (by kernel_rfl) (by kernel_rfl) (by kernel_rfl) (fun _ _ _ h => h) (.inl ⟨by rfl, ?_⟩) (by assumption) ?_
        · intro W hW; have k9 := hW.2; go_simp
        try simp only [List.getElem_toArray, List.getElem_cons_zero, List.getElem_cons_succ, Act.put, List.setIfInBounds_toArray, List.set_cons_zero, List.set_cons_succ]
        refine wpAnyH_take (i := 6) (v := .int .i64 b4.length) rfl (by kernel_rfl) (by kernel_rfl) (by kernel_rfl) (fun _ _ _ h => h) (.inl ⟨by rfl, ?_⟩) (by assumption) ?_
        · intro W hW; go_simp
        try simp only [List.getElem_toArray, List.getElem_cons_zero, List.getElem_cons_succ, Act.put, List.setIfInBounds_toArray, List.set_cons_zero, List.set_cons_succ]
        refine wpAnyH_ready (rs := [1]) (by decide +kernel) (by simp) (AllReadyH.cons rfl (fun K1 hK => ?_) AllReadyH.nil)
        go_simp
        refine (rs_left hH.1).mono ?_; rintro e0 W1 ⟨rfl, rfl⟩
        refine hK.out _ _ hH (fun _ => ?_)
        clear hK
        try simp only [List.getElem_toArray, List.getElem_cons_zero, List.getElem_cons_succ, Act.put, List.setIfInBounds_toArray, List.set_cons_zero, List.set_cons_succ]
        refine wpAnyH_take (i := 7) (v := .bool false) rfl (by kernel_rfl) (by kernel_rfl) (by kernel_rfl) (fun _ _ _ h => h) (.inl ⟨by rfl, ?_⟩) (by assumption) ?_
        · intro W hW; go_simp
        try simp only [List.getElem_toArray, List.getElem_cons_zero, List.getElem_cons_succ, Act.put, List.setIfInBounds_toArray, List.set_cons_zero, List.set_cons_succ]
        refine wpAnyH_done (by decide +kernel) ?_ _
        have HS5 := Lib.hid hH.1
        clear hH
        go_wp2_with fail
        go_roundw
        case rel => exact ⟨j + 1, b4, e4, hlt, by go_num, HY4.out, hl4, HS5.out⟩
        case measure => simp [intOf]; omega
      by_cases x2 : x = 2
      · subst x2
        clear x1
        have hb4 := sR_by HYB.out e u
        have C1 := rs_small HS.out u HYB.out hlb
        have C2 := fun W (s : RS w (w2.heap.size + 1) g w2.heap.size gi cap n bs (sR b e u).2.1 (sR b e u).2.2 b e W) => rq_small s u HYB.out hlb
        obtain ⟨⟨v4, b4, e4⟩, hr⟩ : ∃ r, sR b e u = r := ⟨_, rfl⟩
        simp only [hr] at C1 C2 hb4
        have HY4 := Lib.hid hb4.1
        have hl4 : b4.length ≤ 100000 := by omega
        have D1 := Lib.hid C1
        have D2 := Lib.hid C2
        clear C1 C2 hb4 hr
        go_wp2_with fail
        refine D1.out.mono ?_; rintro e0 w3 ⟨rfl, hs3⟩
        have HS3 := Lib.hid hs3
        clear hs3
        go_wp2_with fail
        refine (D2.out _ HS3.out).mono ?_; rintro e0 w4 ⟨rfl, hs4⟩
        have HS4 := Lib.hid hs4
        clear hs4 D1 D2 HS3
        go_wp2_with fail
        obtain ⟨A2, n2, c2, hq2, -⟩ := HS4.out.q
        obtain rfl : b4.length = n2 := hq2.r.1
        have HQ2 := Lib.hid hq2.c0
        clear hq2
        refine wp_region_held_drew (S := fun U => RS w (w2.heap.size + 1) g w2.heap.size gi cap n bs b4 e4 b4 e4 U ∧ U.cell? ⟨w2.heap.size, 0, none⟩ = some (.slice A2 b4.length c2)) (by kernel_rfl) ⟨HS4.out.keep (Below.refl _ _).drew, HQ2.out⟩ (fun hH => ?_)
        refine wpAnyH_take (i := 0) (v := .pointer (some ⟨g, 0, none⟩)) rfl (by kernel_rfl) (by kernel_rfl) (by kernel_rfl) (fun _ _ _ h => h) (.inl ⟨by rfl, ?_⟩) (by assumption) ?_
        · intro W hW; go_simp
        try simp only [List.getElem_toArray, List.getElem_cons_zero, Act.put, List.setIfInBounds_toArray, List.set_cons_zero, List.set_cons_succ]
        refine wpAnyH_take (i := 2) (v := .pointer (some ⟨w2.heap.size, 0, none⟩)) rfl (by kernel_rfl) (by kernel_rfl) (by kernel_rfl) (fun _ _ _ h => h) (.inl ⟨by rfl, ?_⟩) (by assumption) ?_
        · intro W hW; go_simp
        try simp only [List.getElem_toArray, List.getElem_cons_zero, List.getElem_cons_succ, Act.put, List.setIfInBounds_toArray, List.set_cons_zero, List.set_cons_succ]
        refine wpAnyH_take (i := 3) (v := .pointer (some ⟨w2.heap.size, 0, none⟩)) rfl (by kernel_rfl) (by kernel_rfl) (by kernel_rfl) (fun _ _ _ h => h) (.inl ⟨by rfl, ?_⟩) (by assumption) ?_
        · intro W hW; go_simp
        try simp only [List.getElem_toArray, List.getElem_cons_zero, List.getElem_cons_succ, Act.put, List.setIfInBounds_toArray, List.set_cons_zero, List.set_cons_succ]
        refine wpAnyH_take (i := 4) (v := .pointer (some ⟨w2.heap.size, 0, none⟩)) rfl (by kernel_rfl) (by kernel_rfl) (by kernel_rfl) (fun _ _ _ h => h) (.inl ⟨by rfl, ?_⟩) (by assumption) ?_
        · intro W hW; go_simp
        try simp only [List.getElem_toArray, List.getElem_cons_zero, List.getElem_cons_succ, Act.put, List.setIfInBounds_toArray, List.set_cons_zero, List.set_cons_succ]
        refine wpAnyH_take (i := 5) (v := .slice A2 b4.length c2) rfl (by kernel_rfl) (by kernel_rfl) (by kernel_rfl) (fun _ _ _ h => h) (.inl ⟨by rfl, ?_⟩) (by assumption) ?_
        · intro W hW; have k9 := hW.2; go_simp
        try simp only [List.getElem_toArray, List.getElem_cons_zero, List.getElem_cons_succ, Act.put, List.setIfInBounds_toArray, List.set_cons_zero, List.set_cons_succ]
        refine wpAnyH_take (i := 6) (v := .int .i64 b4.length) rfl (by kernel_rfl) (by kernel_rfl) (by kernel_rfl) (fun _ _ _ h => h) (.inl ⟨by rfl, ?_⟩) (by assumption) ?_
        · intro W hW; go_simp
        try simp only [List.getElem_toArray, List.getElem_cons_zero, List.getElem_cons_succ, Act.put, List.setIfInBounds_toArray, List.set_cons_zero, List.set_cons_succ]
        refine wpAnyH_ready (rs := [1]) (by decide +kernel) (by simp) (AllReadyH.cons rfl (fun K1 hK => ?_) AllReadyH.nil)
        go_simp
        refine (rs_left hH.1).mono ?_; rintro e0 W1 ⟨rfl, rfl⟩
        refine hK.out _ _ hH (fun _ => ?_)
        clear hK
        try simp only [List.getElem_toArray, List.getElem_cons_zero, List.getElem_cons_succ, Act.put, List.setIfInBounds_toArray, List.set_cons_zero, List.set_cons_succ]
        refine wpAnyH_take (i := 7) (v := .bool false) rfl (by kernel_rfl) (by kernel_rfl) (by kernel_rfl) (fun _ _ _ h => h) (.inl ⟨by rfl, ?_⟩) (by assumption) ?_
        · intro W hW; go_simp
        try simp only [List.getElem_toArray, List.getElem_cons_zero, List.getElem_cons_succ, Act.put, List.setIfInBounds_toArray, List.set_cons_zero, List.set_cons_succ]
        refine wpAnyH_done (by decide +kernel) ?_ _
        have HS5 := Lib.hid hH.1
        clear hH
        go_wp2_with fail
        go_roundw
        case rel => exact ⟨j + 1, b4, e4, hlt, by go_num, HY4.out, hl4, HS5.out⟩
        case measure => simp [intOf]; omega
      by_cases x3 : x = 3
      · subst x3
        clear x1 x2 hu hub
        have hb4 := sR_by HYB.out e top
        have C1 := rs_int HS.out HYB.out hlb
        have C2 := fun W (s : RS w (w2.heap.size + 1) g w2.heap.size gi cap n bs (sR b e top).2.1 (sR b e top).2.2 b e W) => rq_int s HYB.out hlb
        obtain ⟨⟨v4, b4, e4⟩, hr⟩ : ∃ r, sR b e top = r := ⟨_, rfl⟩
        simp only [hr] at C1 C2 hb4
        have HY4 := Lib.hid hb4.1
        have hl4 : b4.length ≤ 100000 := by omega
        obtain ⟨z4, hz4⟩ : ∃ z4, zz v4 = z4 := ⟨_, rfl⟩
        simp only [hz4] at C1 C2
        have D1 := Lib.hid C1
        have D2 := Lib.hid C2
        clear C1 C2 hb4 hr
        go_wp2_with fail
        refine D1.out.mono ?_; rintro e0 w3 ⟨rfl, hs3⟩
        have HS3 := Lib.hid hs3
        clear hs3
        go_wp2_with fail
        refine (D2.out _ HS3.out).mono ?_; rintro e0 w4 ⟨rfl, hs4⟩
        have HS4 := Lib.hid hs4
        clear hs4 D1 D2 HS3
        go_wp2_with fail
        obtain ⟨A2, n2, c2, hq2, -⟩ := HS4.out.q
        obtain rfl : b4.length = n2 := hq2.r.1
        have HQ2 := Lib.hid hq2.c0
        clear hq2
        refine wp_region_held_drew (S := fun U => RS w (w2.heap.size + 1) g w2.heap.size gi cap n bs b4 e4 b4 e4 U ∧ U.cell? ⟨w2.heap.size, 0, none⟩ = some (.slice A2 b4.length c2)) (by kernel_rfl) ⟨HS4.out.keep (Below.refl _ _).drew, HQ2.out⟩ (fun hH => ?_)
        refine wpAnyH_take (i := 0) (v := .pointer (some ⟨g, 0, none⟩)) rfl (by kernel_rfl) (by kernel_rfl) (by kernel_rfl) (fun _ _ _ h => h) (.inl ⟨by rfl, ?_⟩) (by assumption) ?_
        · intro W hW; go_simp
        try simp only [List.getElem_toArray, List.getElem_cons_zero, Act.put, List.setIfInBounds_toArray, List.set_cons_zero, List.set_cons_succ]
        refine wpAnyH_take (i := 2) (v := .pointer (some ⟨w2.heap.size, 0, none⟩)) rfl (by kernel_rfl) (by kernel_rfl) (by kernel_rfl) (fun _ _ _ h => h) (.inl ⟨by rfl, ?_⟩) (by assumption) ?_
        · intro W hW; go_simp
        try simp only [List.getElem_toArray, List.getElem_cons_zero, List.getElem_cons_succ, Act.put, List.setIfInBounds_toArray, List.set_cons_zero, List.set_cons_succ]
        refine wpAnyH_take (i := 3) (v := .pointer (some ⟨w2.heap.size, 0, none⟩)) rfl (by kernel_rfl) (by kernel_rfl) (by kernel_rfl) (fun _ _ _ h => h) (.inl ⟨by rfl, ?_⟩) (by assumption) ?_
        · intro W hW; go_simp
        try simp only [List.getElem_toArray, List.getElem_cons_zero, List.getElem_cons_succ, Act.put, List.setIfInBounds_toArray, List.set_cons_zero, List.set_cons_succ]
        refine wpAnyH_take (i := 4) (v := .pointer (some ⟨w2.heap.size, 0, none⟩)) rfl (by kernel_rfl) (by kernel_rfl) (by kernel_rfl) (fun _ _ _ h => h) (.inl ⟨by rfl, ?_⟩) (by assumption) ?_
        · intro W hW; go_simp
        try simp only [List.getElem_toArray, List.getElem_cons_zero, List.getElem_cons_succ, Act.put, List.setIfInBounds_toArray, List.set_cons_zero, List.set_cons_succ]
        refine wpAnyH_take (i := 5) (v := .slice A2 b4.length c2) rfl (by kernel_rfl) (by kernel_rfl) (by kernel_rfl) (fun _ _ _ h => h) (.inl ⟨by rfl, ?_⟩) (by assumption) ?_
        · intro W hW; have k9 := hW.2; go_simp
        try simp only [List.getElem_toArray, List.getElem_cons_zero, List.getElem_cons_succ, Act.put, List.setIfInBounds_toArray, List.set_cons_zero, List.set_cons_succ]
        refine wpAnyH_take (i := 6) (v := .int .i64 b4.length) rfl (by kernel_rfl) (by kernel_rfl) (by kernel_rfl) (fun _ _ _ h => h) (.inl ⟨by rfl, ?_⟩) (by assumption) ?_
        · intro W hW; go_simp
        try simp only [List.getElem_toArray, List.getElem_cons_zero, List.getElem_cons_succ, Act.put, List.setIfInBounds_toArray, List.set_cons_zero, List.set_cons_succ]
        refine wpAnyH_ready (rs := [1]) (by decide +kernel) (by simp) (AllReadyH.cons rfl (fun K1 hK => ?_) AllReadyH.nil)
        go_simp
        refine (rs_left hH.1).mono ?_; rintro e0 W1 ⟨rfl, rfl⟩
        refine hK.out _ _ hH (fun _ => ?_)
        clear hK
        try simp only [List.getElem_toArray, List.getElem_cons_zero, List.getElem_cons_succ, Act.put, List.setIfInBounds_toArray, List.set_cons_zero, List.set_cons_succ]
        refine wpAnyH_take (i := 7) (v := .bool false) rfl (by kernel_rfl) (by kernel_rfl) (by kernel_rfl) (fun _ _ _ h => h) (.inl ⟨by rfl, ?_⟩) (by assumption) ?_
        · intro W hW; go_simp
        try simp only [List.getElem_toArray, List.getElem_cons_zero, List.getElem_cons_succ, Act.put, List.setIfInBounds_toArray, List.set_cons_zero, List.set_cons_succ]
        refine wpAnyH_done (by decide +kernel) ?_ _
        have HS5 := Lib.hid hH.1
        clear hH
        go_wp2_with fail
        go_roundw
        case rel => exact ⟨j + 1, b4, e4, hlt, by go_num, HY4.out, hl4, HS5.out⟩
        case measure => simp [intOf]; omega
      by_cases x4 : x = 4
      · subst x4
        clear x1 x2 x3 hu hub
        have hb4 := fR_by HYB.out e
        have C1 := rs_flag HS.out HYB.out hlb
        have C2 := fun W (s : RS w (w2.heap.size + 1) g w2.heap.size gi cap n bs (fR b e).2.1 (fR b e).2.2 b e W) => rq_flag s HYB.out hlb
        obtain ⟨⟨v4, b4, e4⟩, hr⟩ : ∃ r, fR b e = r := ⟨_, rfl⟩
        simp only [hr] at C1 C2 hb4
        have HY4 := Lib.hid hb4.1
        have hl4 : b4.length ≤ 100000 := by omega
        have D1 := Lib.hid C1
        have D2 := Lib.hid C2
        clear C1 C2 hb4 hr
        go_wp2_with fail
        refine D1.out.mono ?_; rintro e0 w3 ⟨rfl, hs3⟩
        have HS3 := Lib.hid hs3
        clear hs3
        go_wp2_with fail
        refine (D2.out _ HS3.out).mono ?_; rintro e0 w4 ⟨rfl, hs4⟩
        have HS4 := Lib.hid hs4
        clear hs4 D1 D2 HS3
        go_wp2_with fail
        obtain ⟨A2, n2, c2, hq2, -⟩ := HS4.out.q
        obtain rfl : b4.length = n2 := hq2.r.1
        have HQ2 := Lib.hid hq2.c0
        clear hq2
        refine wp_region_held_drew (S := fun U => RS w (w2.heap.size + 1) g w2.heap.size gi cap n bs b4 e4 b4 e4 U ∧ U.cell? ⟨w2.heap.size, 0, none⟩ = some (.slice A2 b4.length c2)) (by kernel_rfl) ⟨HS4.out.keep (Below.refl _ _).drew, HQ2.out⟩ (fun hH => ?_)
        refine wpAnyH_take (i := 0) (v := .pointer (some ⟨g, 0, none⟩)) rfl (by kernel_rfl) (by kernel_rfl) (by kernel_rfl) (fun _ _ _ h => h) (.inl ⟨by rfl, ?_⟩) (by assumption) ?_
        · intro W hW; go_simp
        try simp only [List.getElem_toArray, List.getElem_cons_zero, Act.put, List.setIfInBounds_toArray, List.set_cons_zero, List.set_cons_succ]
        refine wpAnyH_take (i := 2) (v := .pointer (some ⟨w2.heap.size, 0, none⟩)) rfl (by kernel_rfl) (by kernel_rfl) (by kernel_rfl) (fun _ _ _ h => h) (.inl ⟨by rfl, ?_⟩) (by assumption) ?_
        · intro W hW; go_simp
        try simp only [List.getElem_toArray, List.getElem_cons_zero, List.getElem_cons_succ, Act.put, List.setIfInBounds_toArray, List.set_cons_zero, List.set_cons_succ]
        refine wpAnyH_take (i := 3) (v := .pointer (some ⟨w2.heap.size, 0, none⟩)) rfl (by kernel_rfl) (by kernel_rfl) (by kernel_rfl) (fun _ _ _ h => h) (.inl ⟨by rfl, ?_⟩) (by assumption) ?_
        · intro W hW; go_simp
        try simp only [List.getElem_toArray, List.getElem_cons_zero, List.getElem_cons_succ, Act.put, List.setIfInBounds_toArray, List.set_cons_zero, List.set_cons_succ]
        refine wpAnyH_take (i := 4) (v := .pointer (some ⟨w2.heap.size, 0, none⟩)) rfl (by kernel_rfl) (by kernel_rfl) (by kernel_rfl) (fun _ _ _ h => h) (.inl ⟨by rfl, ?_⟩) (by assumption) ?_
        · intro W hW; go_simp
        try simp only [List.getElem_toArray, List.getElem_cons_zero, List.getElem_cons_succ, Act.put, List.setIfInBounds_toArray, List.set_cons_zero, List.set_cons_succ]
        refine wpAnyH_take (i := 5) (v := .slice A2 b4.length c2) rfl (by kernel_rfl) (by kernel_rfl) (by kernel_rfl) (fun _ _ _ h => h) (.inl ⟨by rfl, ?_⟩) (by assumption) ?_
        · intro W hW; have k9 := hW.2; go_simp
        try simp only [List.getElem_toArray, List.getElem_cons_zero, List.getElem_cons_succ, Act.put, List.setIfInBounds_toArray, List.set_cons_zero, List.set_cons_succ]
        refine wpAnyH_take (i := 6) (v := .int .i64 b4.length) rfl (by kernel_rfl) (by kernel_rfl) (by kernel_rfl) (fun _ _ _ h => h) (.inl ⟨by rfl, ?_⟩) (by assumption) ?_
        · intro W hW; go_simp
        try simp only [List.getElem_toArray, List.getElem_cons_zero, List.getElem_cons_succ, Act.put, List.setIfInBounds_toArray, List.set_cons_zero, List.set_cons_succ]
        refine wpAnyH_ready (rs := [1]) (by decide +kernel) (by simp) (AllReadyH.cons rfl (fun K1 hK => ?_) AllReadyH.nil)
        go_simp
        refine (rs_left hH.1).mono ?_; rintro e0 W1 ⟨rfl, rfl⟩
        refine hK.out _ _ hH (fun _ => ?_)
        clear hK
        try simp only [List.getElem_toArray, List.getElem_cons_zero, List.getElem_cons_succ, Act.put, List.setIfInBounds_toArray, List.set_cons_zero, List.set_cons_succ]
        refine wpAnyH_take (i := 7) (v := .bool false) rfl (by kernel_rfl) (by kernel_rfl) (by kernel_rfl) (fun _ _ _ h => h) (.inl ⟨by rfl, ?_⟩) (by assumption) ?_
        · intro W hW; go_simp
        try simp only [List.getElem_toArray, List.getElem_cons_zero, List.getElem_cons_succ, Act.put, List.setIfInBounds_toArray, List.set_cons_zero, List.set_cons_succ]
        refine wpAnyH_done (by decide +kernel) ?_ _
        have HS5 := Lib.hid hH.1
        clear hH
        go_wp2_with fail
        go_roundw
        case rel => exact ⟨j + 1, b4, e4, hlt, by go_num, HY4.out, hl4, HS5.out⟩
        case measure => simp [intOf]; omega
      by_cases x5 : x = 5
      · subst x5
        clear x1 x2 x3 x4 hu hub
        have hb4 := tR_by HYB.out e y
        have C1 := rs_text HS.out y HYB.out hlb hbm
        have C2 := fun W (s : RS w (w2.heap.size + 1) g w2.heap.size gi cap n bs (tR b e y).2.1 (tR b e y).2.2 b e W) (v : Value) (k : Nat) (xs : List Value) (hv : W.ownsRow (w2.heap.size + 1) 5 1 v k xs) => rq_text s y HYB.out hlb hbm hv
        obtain ⟨⟨ts, b4, e4⟩, hr⟩ : ∃ r, tR b e y = r := ⟨_, rfl⟩
        simp only [hr] at C1 C2 hb4
        have HY4 := Lib.hid hb4.1
        have hl4 : b4.length ≤ 100000 := by omega
        have hl5 : ts.length ≤ 100000 := by omega
        have D1 := Lib.hid C1
        have D2 := Lib.hid C2
        clear C1 C2 hb4 hr
        go_wp2_with fail
        refine D1.out.mono ?_; rintro e0 w3 ⟨v3, rfl, ho3, hs3⟩
        obtain ⟨At, ct, rfl, -⟩ := owns_rd ho3
        have HS3 := Lib.hid hs3
        have HO3 := Lib.hid ho3
        clear hs3 ho3
        go_wp2_with fail
        refine wp_region_held_drew (S := fun U => (∃ b2 e2, RS w (w2.heap.size + 1) g w2.heap.size gi cap n bs b4 e4 b2 e2 U) ∧ U.ownsRow (w2.heap.size + 1) 5 1 (.slice At ts.length ct) ts.length (ts.map (Value.int .u8))) (by kernel_rfl) ⟨⟨b, e, HS3.out.keep (Below.refl _ _).drew⟩, HO3.out⟩ (fun hH => ?_)
        refine wpAnyH_take (i := 0) (v := .slice At ts.length ct) rfl (by kernel_rfl) (by kernel_rfl) (by kernel_rfl) (fun _ _ _ h => h) (.inl ⟨by rfl, ?_⟩) (by assumption) ?_
        · intro W hW; go_simp
        try simp only [List.getElem_toArray, List.getElem_cons_zero, Act.put, List.setIfInBounds_toArray, List.set_cons_zero, List.set_cons_succ]
        refine wpAnyH_take (i := 1) (v := .string (strOfNums ts)) rfl (by kernel_rfl) (by kernel_rfl) (by kernel_rfl) (fun _ _ _ h => h) (.inl ⟨by rfl, ?_⟩) (by assumption) ?_
        · intro W hW; have k9 := conv_any (c := ct) (owns_at hW.2); go_simp
        try simp only [List.getElem_toArray, List.getElem_cons_zero, List.getElem_cons_succ, Act.put, List.setIfInBounds_toArray, List.set_cons_zero, List.set_cons_succ]
        refine wpAnyH_take (i := 2) (v := .pointer (some ⟨w2.heap.size, 0, none⟩)) rfl (by kernel_rfl) (by kernel_rfl) (by kernel_rfl) (fun _ _ _ h => h) (.inl ⟨by rfl, ?_⟩) (by assumption) ?_
        · intro W hW; go_simp
        try simp only [List.getElem_toArray, List.getElem_cons_zero, List.getElem_cons_succ, Act.put, List.setIfInBounds_toArray, List.set_cons_zero, List.set_cons_succ]
        refine wpAnyH_take (i := 3) (v := .int .i64 y) rfl (by kernel_rfl) (by kernel_rfl) (by kernel_rfl) (fun _ _ _ h => h) (.inl ⟨by rfl, ?_⟩) (by assumption) ?_
        · intro W hW; go_simp
        try simp only [List.getElem_toArray, List.getElem_cons_zero, List.getElem_cons_succ, Act.put, List.setIfInBounds_toArray, List.set_cons_zero, List.set_cons_succ]
        refine wpAnyH_ready (rs := [4]) (by decide +kernel) (by simp) (AllReadyH.cons rfl (fun K1 hK => ?_) AllReadyH.nil)
        go_simp
        refine (D2.out _ (HS3.out.keep (Below.refl _ _).drew) _ _ _ hH.2).mono ?_; rintro e0 W1 ⟨A6, c6, rfl, r6, o6, s6⟩
        refine hK.out _ _ ⟨⟨b4, e4, s6⟩, o6⟩ (fun _ => ?_)
        clear hK hH
        try simp only [List.getElem_toArray, List.getElem_cons_zero, List.getElem_cons_succ, Act.put, List.setIfInBounds_toArray, List.set_cons_zero, List.set_cons_succ]
        refine wpAnyH_more (S1 := fun U => RS w (w2.heap.size + 1) g w2.heap.size gi cap n bs b4 e4 b4 e4 U ∧ U.ownsRow (w2.heap.size + 1) 5 1 (.slice At ts.length ct) ts.length (ts.map (Value.int .u8)) ∧ RdB U A6 ts.length ts) (fun _ h => ⟨⟨b4, e4, h.1⟩, h.2.1⟩) _ _ _ _ ?_
        have hH := And.intro s6 (And.intro o6 r6)
        refine wpAnyH_take (i := 5) (v := .string (strOfNums ts)) rfl (by kernel_rfl) (by kernel_rfl) (by kernel_rfl) (fun _ _ _ h => h) (.inl ⟨by rfl, ?_⟩) (by assumption) ?_
        · intro W hW; have k9 := conv_any (c := c6) hW.2.2; go_simp
        try simp only [List.getElem_toArray, List.getElem_cons_zero, List.getElem_cons_succ, Act.put, List.setIfInBounds_toArray, List.set_cons_zero, List.set_cons_succ]
        refine wpAnyH_take (i := 6) (v := .bool false) rfl (by kernel_rfl) (by kernel_rfl) (by kernel_rfl) (fun _ _ _ h => h) (.inl ⟨by rfl, ?_⟩) (by assumption) ?_
        · intro W hW; go_simp
        try simp only [List.getElem_toArray, List.getElem_cons_zero, List.getElem_cons_succ, Act.put, List.setIfInBounds_toArray, List.set_cons_zero, List.set_cons_succ]
        refine wpAnyH_done (by decide +kernel) ?_ _
        have HS6 := Lib.hid s6
        have HO6 := Lib.hid o6
        clear s6 o6 r6 hH HS3 HO3 D1 D2
        go_wp2_with fail
        go_loopw [11, 92] (fun _ i wr2 => ∃ (q : Nat) (xs : List Int), q ≤ ts.length ∧ i = .int .i64 q ∧ xs.length = ts.length ∧ wr2.ownsRow (w2.heap.size + 1) 5 1 (.slice At ts.length ct) ts.length (xs.map (Value.int .u8)) ∧ RS w (w2.heap.size + 1) g w2.heap.size gi cap n bs b4 e4 b4 e4 wr2) (fun _ i _ => ts.length - (intOf i).toNat)
        case atStart => exact ⟨0, ts, Nat.zero_le _, rfl, rfl, HO6.out, HS6.out⟩
        case round =>
          obtain ⟨q, xs, hq, rfl, hxl, ho, hs⟩ := hrel
          by_cases hql : q < ts.length
          · have HO7 := Lib.hid ho
            have HS7 := Lib.hid hs
            obtain ⟨gt, cap', cur, eA, -, -, -⟩ := ho.2.resolve_left (fun c => by omega)
            cases eA
            have hcq := ho.cellAt q (by omega)
            rw [List.getElem?_map, List.getElem?_eq_getElem (by omega), Option.map_some] at hcq
            obtain ⟨z, hz⟩ : ∃ z, xs[q] = z := ⟨_, rfl⟩
            rw [hz] at hcq
            have hfq := (own_put (k := q) ho 0).2.1
            clear ho hs hz
            go_wp2_with fail
            go_roundw
            case rel => exact ⟨q + 1, _, hql, by go_num, by rw [List.length_set]; exact hxl, (own_put (k := q) HO7.out _).1, HS7.out.keep ((Below.refl _ _).setCell (own_put (k := q) HO7.out 0).2.2 _)⟩
            case measure => simp [intOf]; omega
          · obtain rfl : q = ts.length := by omega
            have HS4 := Lib.hid hs
            clear ho hs
            go_wp2_with fail
            obtain ⟨A2, n2, c2, hq2, -⟩ := HS4.out.q
            obtain rfl : b4.length = n2 := hq2.r.1
            have HQ2 := Lib.hid hq2.c0
            clear hq2
            refine wp_region_held_drew (S := fun U => RS w (w2.heap.size + 1) g w2.heap.size gi cap n bs b4 e4 b4 e4 U ∧ U.cell? ⟨w2.heap.size, 0, none⟩ = some (.slice A2 b4.length c2)) (by kernel_rfl) ⟨HS4.out.keep (Below.refl _ _).drew, HQ2.out⟩ (fun hH => ?_)
            refine wpAnyH_take (i := 0) (v := .pointer (some ⟨g, 0, none⟩)) rfl (by kernel_rfl) (by kernel_rfl) (by kernel_rfl) (fun _ _ _ h => h) (.inl ⟨by rfl, ?_⟩) (by assumption) ?_
            · intro W hW; go_simp
            try simp only [List.getElem_toArray, List.getElem_cons_zero, Act.put, List.setIfInBounds_toArray, List.set_cons_zero, List.set_cons_succ]
            refine wpAnyH_take (i := 2) (v := .pointer (some ⟨w2.heap.size, 0, none⟩)) rfl (by kernel_rfl) (by kernel_rfl) (by kernel_rfl) (fun _ _ _ h => h) (.inl ⟨by rfl, ?_⟩) (by assumption) ?_
            · intro W hW; go_simp
            try simp only [List.getElem_toArray, List.getElem_cons_zero, List.getElem_cons_succ, Act.put, List.setIfInBounds_toArray, List.set_cons_zero, List.set_cons_succ]
            refine wpAnyH_take (i := 3) (v := .pointer (some ⟨w2.heap.size, 0, none⟩)) rfl (by kernel_rfl) (by kernel_rfl) (by kernel_rfl) (fun _ _ _ h => h) (.inl ⟨by rfl, ?_⟩) (by assumption) ?_
            · intro W hW; go_simp
            try simp only [List.getElem_toArray, List.getElem_cons_zero, List.getElem_cons_succ, Act.put, List.setIfInBounds_toArray, List.set_cons_zero, List.set_cons_succ]
            refine wpAnyH_take (i := 4) (v := .pointer (some ⟨w2.heap.size, 0, none⟩)) rfl (by kernel_rfl) (by kernel_rfl) (by kernel_rfl) (fun _ _ _ h => h) (.inl ⟨by rfl, ?_⟩) (by assumption) ?_
            · intro W hW; go_simp
            try simp only [List.getElem_toArray, List.getElem_cons_zero, List.getElem_cons_succ, Act.put, List.setIfInBounds_toArray, List.set_cons_zero, List.set_cons_succ]
            refine wpAnyH_take (i := 5) (v := .slice A2 b4.length c2) rfl (by kernel_rfl) (by kernel_rfl) (by kernel_rfl) (fun _ _ _ h => h) (.inl ⟨by rfl, ?_⟩) (by assumption) ?_
            · intro W hW; have k9 := hW.2; go_simp
            try simp only [List.getElem_toArray, List.getElem_cons_zero, List.getElem_cons_succ, Act.put, List.setIfInBounds_toArray, List.set_cons_zero, List.set_cons_succ]
            refine wpAnyH_take (i := 6) (v := .int .i64 b4.length) rfl (by kernel_rfl) (by kernel_rfl) (by kernel_rfl) (fun _ _ _ h => h) (.inl ⟨by rfl, ?_⟩) (by assumption) ?_
            · intro W hW; go_simp
            try simp only [List.getElem_toArray, List.getElem_cons_zero, List.getElem_cons_succ, Act.put, List.setIfInBounds_toArray, List.set_cons_zero, List.set_cons_succ]
            refine wpAnyH_ready (rs := [1]) (by decide +kernel) (by simp) (AllReadyH.cons rfl (fun K1 hK => ?_) AllReadyH.nil)
            go_simp
            refine (rs_left hH.1).mono ?_; rintro e0 W1 ⟨rfl, rfl⟩
            refine hK.out _ _ hH (fun _ => ?_)
            clear hK
            try simp only [List.getElem_toArray, List.getElem_cons_zero, List.getElem_cons_succ, Act.put, List.setIfInBounds_toArray, List.set_cons_zero, List.set_cons_succ]
            refine wpAnyH_take (i := 7) (v := .bool false) rfl (by kernel_rfl) (by kernel_rfl) (by kernel_rfl) (fun _ _ _ h => h) (.inl ⟨by rfl, ?_⟩) (by assumption) ?_
            · intro W hW; go_simp
            try simp only [List.getElem_toArray, List.getElem_cons_zero, List.getElem_cons_succ, Act.put, List.setIfInBounds_toArray, List.set_cons_zero, List.set_cons_succ]
            refine wpAnyH_done (by decide +kernel) ?_ _
            have HS5 := Lib.hid hH.1
            clear hH
            go_wp2_with fail
            go_roundw
            case rel => exact ⟨j + 1, b4, e4, hlt, by go_num, HY4.out, hl4, HS5.out⟩
            case measure => simp [intOf]; omega
      by_cases x6 : x = 6
      · subst x6
        clear x1 x2 x3 x4 x5
        have C1 := rs_fail HS.out (u % 10)
        have C2 := fun W (s : RS w (w2.heap.size + 1) g w2.heap.size gi cap n bs b (if e = 0 then u % 10 else e) b e W) => rq_fail s (u % 10)
        obtain ⟨e4, he4⟩ : ∃ e4 : Int, (if e = 0 then u % 10 else e) = e4 := ⟨_, rfl⟩
        simp only [he4] at C1 C2
        have D1 := Lib.hid C1
        have D2 := Lib.hid C2
        clear C1 C2 he4
        obtain ⟨b4, hb4⟩ : ∃ b4, b = b4 := ⟨_, rfl⟩
        subst hb4
        have HY4 := HYB
        have hl4 := hlb
        go_wp2_with fail
        refine D1.out.mono ?_; rintro e0 w3 ⟨rfl, hs3⟩
        have HS3 := Lib.hid hs3
        clear hs3
        go_wp2_with fail
        refine (D2.out _ HS3.out).mono ?_; rintro e0 w4 ⟨rfl, hs4⟩
        have HS4 := Lib.hid hs4
        clear hs4 D1 D2 HS3
        go_wp2_with fail
        obtain ⟨A2, n2, c2, hq2, -⟩ := HS4.out.q
        obtain rfl : b.length = n2 := hq2.r.1
        have HQ2 := Lib.hid hq2.c0
        clear hq2
        refine wp_region_held_drew (S := fun U => RS w (w2.heap.size + 1) g w2.heap.size gi cap n bs b e4 b e4 U ∧ U.cell? ⟨w2.heap.size, 0, none⟩ = some (.slice A2 b.length c2)) (by kernel_rfl) ⟨HS4.out.keep (Below.refl _ _).drew, HQ2.out⟩ (fun hH => ?_)
        refine wpAnyH_take (i := 0) (v := .pointer (some ⟨g, 0, none⟩)) rfl (by kernel_rfl) (by kernel_rfl) (by kernel_rfl) (fun _ _ _ h => h) (.inl ⟨by rfl, ?_⟩) (by assumption) ?_
        · intro W hW; go_simp
        try simp only [List.getElem_toArray, List.getElem_cons_zero, Act.put, List.setIfInBounds_toArray, List.set_cons_zero, List.set_cons_succ]
        refine wpAnyH_take (i := 2) (v := .pointer (some ⟨w2.heap.size, 0, none⟩)) rfl (by kernel_rfl) (by kernel_rfl) (by kernel_rfl) (fun _ _ _ h => h) (.inl ⟨by rfl, ?_⟩) (by assumption) ?_
        · intro W hW; go_simp
        try simp only [List.getElem_toArray, List.getElem_cons_zero, List.getElem_cons_succ, Act.put, List.setIfInBounds_toArray, List.set_cons_zero, List.set_cons_succ]
        refine wpAnyH_take (i := 3) (v := .pointer (some ⟨w2.heap.size, 0, none⟩)) rfl (by kernel_rfl) (by kernel_rfl) (by kernel_rfl) (fun _ _ _ h => h) (.inl ⟨by rfl, ?_⟩) (by assumption) ?_
        · intro W hW; go_simp
        try simp only [List.getElem_toArray, List.getElem_cons_zero, List.getElem_cons_succ, Act.put, List.setIfInBounds_toArray, List.set_cons_zero, List.set_cons_succ]
        refine wpAnyH_take (i := 4) (v := .pointer (some ⟨w2.heap.size, 0, none⟩)) rfl (by kernel_rfl) (by kernel_rfl) (by kernel_rfl) (fun _ _ _ h => h) (.inl ⟨by rfl, ?_⟩) (by assumption) ?_
        · intro W hW; go_simp
        try simp only [List.getElem_toArray, List.getElem_cons_zero, List.getElem_cons_succ, Act.put, List.setIfInBounds_toArray, List.set_cons_zero, List.set_cons_succ]
        refine wpAnyH_take (i := 5) (v := .slice A2 b.length c2) rfl (by kernel_rfl) (by kernel_rfl) (by kernel_rfl) (fun _ _ _ h => h) (.inl ⟨by rfl, ?_⟩) (by assumption) ?_
        · intro W hW; have k9 := hW.2; go_simp
        try simp only [List.getElem_toArray, List.getElem_cons_zero, List.getElem_cons_succ, Act.put, List.setIfInBounds_toArray, List.set_cons_zero, List.set_cons_succ]
        refine wpAnyH_take (i := 6) (v := .int .i64 b.length) rfl (by kernel_rfl) (by kernel_rfl) (by kernel_rfl) (fun _ _ _ h => h) (.inl ⟨by rfl, ?_⟩) (by assumption) ?_
        · intro W hW; go_simp
        try simp only [List.getElem_toArray, List.getElem_cons_zero, List.getElem_cons_succ, Act.put, List.setIfInBounds_toArray, List.set_cons_zero, List.set_cons_succ]
        refine wpAnyH_ready (rs := [1]) (by decide +kernel) (by simp) (AllReadyH.cons rfl (fun K1 hK => ?_) AllReadyH.nil)
        go_simp
        refine (rs_left hH.1).mono ?_; rintro e0 W1 ⟨rfl, rfl⟩
        refine hK.out _ _ hH (fun _ => ?_)
        clear hK
        try simp only [List.getElem_toArray, List.getElem_cons_zero, List.getElem_cons_succ, Act.put, List.setIfInBounds_toArray, List.set_cons_zero, List.set_cons_succ]
        refine wpAnyH_take (i := 7) (v := .bool false) rfl (by kernel_rfl) (by kernel_rfl) (by kernel_rfl) (fun _ _ _ h => h) (.inl ⟨by rfl, ?_⟩) (by assumption) ?_
        · intro W hW; go_simp
        try simp only [List.getElem_toArray, List.getElem_cons_zero, List.getElem_cons_succ, Act.put, List.setIfInBounds_toArray, List.set_cons_zero, List.set_cons_succ]
        refine wpAnyH_done (by decide +kernel) ?_ _
        have HS5 := Lib.hid hH.1
        clear hH
        go_wp2_with fail
        go_roundw
        case rel => exact ⟨j + 1, b, e4, hlt, by go_num, HY4.out, hl4, HS5.out⟩
        case measure => simp [intOf]; omega
      have z1 : decide (x = 1) = false := decide_eq_false x1
      have z2 : decide (x = 2) = false := decide_eq_false x2
      have z3 : decide (x = 3) = false := decide_eq_false x3
      have z4 : decide (x = 4) = false := decide_eq_false x4
      have z5 : decide (x = 5) = false := decide_eq_false x5
      have z6 : decide (x = 6) = false := decide_eq_false x6
      have y1 : (x == 1) = false := by simpa using x1
      have y2 : (x == 2) = false := by simpa using x2
      have y3 : (x == 3) = false := by simpa using x3
      have y4 : (x == 4) = false := by simpa using x4
      have y5 : (x == 5) = false := by simpa using x5
      have y6 : (x == 6) = false := by simpa using x6
      clear x1 x2 x3 x4 x5 x6 hu hub
      obtain ⟨b4, hb4⟩ : ∃ b4, b = b4 := ⟨_, rfl⟩
      obtain ⟨e4, he4⟩ : ∃ e4, e = e4 := ⟨_, rfl⟩
      subst hb4 he4
      have HS4 := HS
      have HY4 := HYB
      have hl4 := hlb
      go_wp2_with fail
      obtain ⟨A2, n2, c2, hq2, -⟩ := HS4.out.q
      obtain rfl : b.length = n2 := hq2.r.1
      have HQ2 := Lib.hid hq2.c0
      clear hq2
      refine wp_region_held_drew (S := fun U => RS w (w2.heap.size + 1) g w2.heap.size gi cap n bs b e b e U ∧ U.cell? ⟨w2.heap.size, 0, none⟩ = some (.slice A2 b.length c2)) (by kernel_rfl) ⟨HS4.out.keep (Below.refl _ _).drew, HQ2.out⟩ (fun hH => ?_)
      refine wpAnyH_take (i := 0) (v := .pointer (some ⟨g, 0, none⟩)) rfl (by kernel_rfl) (by kernel_rfl) (by kernel_rfl) (fun _ _ _ h => h) (.inl ⟨by rfl, ?_⟩) (by assumption) ?_
      · intro W hW; go_simp
      try simp only [List.getElem_toArray, List.getElem_cons_zero, Act.put, List.setIfInBounds_toArray, List.set_cons_zero, List.set_cons_succ]
      refine wpAnyH_take (i := 2) (v := .pointer (some ⟨w2.heap.size, 0, none⟩)) rfl (by kernel_rfl) (by kernel_rfl) (by kernel_rfl) (fun _ _ _ h => h) (.inl ⟨by rfl, ?_⟩) (by assumption) ?_
      · intro W hW; go_simp
      try simp only [List.getElem_toArray, List.getElem_cons_zero, List.getElem_cons_succ, Act.put, List.setIfInBounds_toArray, List.set_cons_zero, List.set_cons_succ]
      refine wpAnyH_take (i := 3) (v := .pointer (some ⟨w2.heap.size, 0, none⟩)) rfl (by kernel_rfl) (by kernel_rfl) (by kernel_rfl) (fun _ _ _ h => h) (.inl ⟨by rfl, ?_⟩) (by assumption) ?_
      · intro W hW; go_simp
      try simp only [List.getElem_toArray, List.getElem_cons_zero, List.getElem_cons_succ, Act.put, List.setIfInBounds_toArray, List.set_cons_zero, List.set_cons_succ]
      refine wpAnyH_take (i := 4) (v := .pointer (some ⟨w2.heap.size, 0, none⟩)) rfl (by kernel_rfl) (by kernel_rfl) (by kernel_rfl) (fun _ _ _ h => h) (.inl ⟨by rfl, ?_⟩) (by assumption) ?_
      · intro W hW; go_simp
      try simp only [List.getElem_toArray, List.getElem_cons_zero, List.getElem_cons_succ, Act.put, List.setIfInBounds_toArray, List.set_cons_zero, List.set_cons_succ]
      refine wpAnyH_take (i := 5) (v := .slice A2 b.length c2) rfl (by kernel_rfl) (by kernel_rfl) (by kernel_rfl) (fun _ _ _ h => h) (.inl ⟨by rfl, ?_⟩) (by assumption) ?_
      · intro W hW; have k9 := hW.2; go_simp
      try simp only [List.getElem_toArray, List.getElem_cons_zero, List.getElem_cons_succ, Act.put, List.setIfInBounds_toArray, List.set_cons_zero, List.set_cons_succ]
      refine wpAnyH_take (i := 6) (v := .int .i64 b.length) rfl (by kernel_rfl) (by kernel_rfl) (by kernel_rfl) (fun _ _ _ h => h) (.inl ⟨by rfl, ?_⟩) (by assumption) ?_
      · intro W hW; go_simp
      try simp only [List.getElem_toArray, List.getElem_cons_zero, List.getElem_cons_succ, Act.put, List.setIfInBounds_toArray, List.set_cons_zero, List.set_cons_succ]
      refine wpAnyH_ready (rs := [1]) (by decide +kernel) (by simp) (AllReadyH.cons rfl (fun K1 hK => ?_) AllReadyH.nil)
      go_simp
      refine (rs_left hH.1).mono ?_; rintro e0 W1 ⟨rfl, rfl⟩
      refine hK.out _ _ hH (fun _ => ?_)
      clear hK
      try simp only [List.getElem_toArray, List.getElem_cons_zero, List.getElem_cons_succ, Act.put, List.setIfInBounds_toArray, List.set_cons_zero, List.set_cons_succ]
      refine wpAnyH_take (i := 7) (v := .bool false) rfl (by kernel_rfl) (by kernel_rfl) (by kernel_rfl) (fun _ _ _ h => h) (.inl ⟨by rfl, ?_⟩) (by assumption) ?_
      · intro W hW; go_simp
      try simp only [List.getElem_toArray, List.getElem_cons_zero, List.getElem_cons_succ, Act.put, List.setIfInBounds_toArray, List.set_cons_zero, List.set_cons_succ]
      refine wpAnyH_done (by decide +kernel) ?_ _
      have HS5 := Lib.hid hH.1
      clear hH
      go_wp2_with fail
      go_roundw
      case rel => exact ⟨j + 1, b, e, hlt, by go_num, HY4.out, hl4, HS5.out⟩
      case measure => simp [intOf]; omega
end Go.Proofs.Ytehmheohojnpmaa
