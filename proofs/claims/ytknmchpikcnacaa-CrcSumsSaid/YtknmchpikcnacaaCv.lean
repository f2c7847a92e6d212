/- The walk of the statement CrcSums, given the program's own calls. -/
import Derived.Test.YtknmchpikcnacaaPu
import Derived.Test.YtknmchpikcnacaaCl
import Derived.BigQuiet
import Derived.WalkSmall
namespace Go.Proofs.Ytknmchpikcnacaa
open Go.RowKit

theorem part_len : ∀ (ps : List Pt) (p : Pt), p ∈ ps → p.bs.length ≤ (cat ps).length
  | [], p, h => by simp at h
  | q :: l, p, h => by
    simp only [cat, List.length_append]
    rcases List.mem_cons.1 h with rfl | h
    · omega
    · have := part_len l p h
      omega
theorem lt_of_get {U : World} {G : Nat} {x : Obj} (h : U.heap[G]? = some x) : G < U.heap.size := (Array.getElem?_eq_some_iff.1 h).1
theorem own_more (U : World) {base : Nat} (h : (U.alloc (.cells #[] 5)).ownsRow U.heap.size 5 1 (.slice (some ⟨U.heap.size, 0, none⟩) 0 0) 0 []) (hb : base ≤ U.heap.size) :
    (U.alloc (.cells #[] 5)).ownsRow base 5 1 (.slice (some ⟨U.heap.size, 0, none⟩) 0 0) 0 [] := own_less h hb
theorem info_sl : (Try.prog.info? 23).map (fun i => (i.zero, i.size, i.bytes)) = some (some (.slice none 0 0), 1, 24) := by kernel_rfl

set_option maxRecDepth 100000 in
set_option maxHeartbeats 16000000 in
theorem sums_walk (K : Crc) (A : Option Addr) (m c : Nat) (ps : List Pt) (w : World) (h : PtsAt w A m ps) (hy : By (cat ps)) (hn : ∀ p, p ∈ ps → p.n ≤ 140737488351232) (hl : (cat ps).length ≤ 20000) (hm : m ≤ 1000) :
    Calls Try.prog 3 #[.slice A m c] w fun e w' => e = .returned (.bool true) ∧ Below w.heap.size w w' := by
  obtain ⟨i0, hi0, hz0, hz1, hz2⟩ := info_parts info_u8
  obtain ⟨i1, hi1, hy0, hy1, hy2⟩ := info_parts info_sl
  have HH := Lib.hid h
  have HY := Lib.hid hy
  have HL := Lib.hid hl
  have KK := Lib.hid K
  have AL := Lib.hid (all_parts A m c ps w h hn (by omega))
  have hdm : decide ((m : Int) ≤ 1000) = true := decide_eq_true (by omega)
  clear h hy K hl hn
  go_enter Try.func3, Try.ntmps3
  go_wp2_with fail
  refine AL.out.mono ?_; rintro e w1 hE
  have HE : Hid (∃ v, e = .returned (.tuple #[v, .bool true]) ∧ New w w1 v (cat ps)) := Lib.hid (by
    rcases hE with ⟨c1, _⟩ | ⟨_, v, e1, n1⟩
    · exact absurd HL.out (by omega)
    · rw [hdm] at e1
      exact ⟨v, e1, n1⟩)
  clear hE AL hdm
  obtain ⟨v, rfl, n1⟩ := HE.out
  have HN := Lib.hid n1
  clear n1 HE
  go_wp2_with fail
  go_loopw [5, 6, 19] (fun x _ i wr => ∃ (k : Nat) (qs : List Pt), k ≤ m ∧ i = .int .i64 k ∧ Ins w wr ps k x qs ∧ New w wr v (cat ps)) (fun _ _ i _ => m - (intOf i).toNat)
  case atStart => exact ⟨0, [], Nat.zero_le _, rfl, Ins.start ps HN.out.q, HN.out⟩
  case round =>
    obtain ⟨k, qs, hk, rfl, hi, hv⟩ := hrel
    have HI := Lib.hid hi
    have HV := Lib.hid hv
    clear hi hv
    by_cases hlt : k < m
    case neg =>
      obtain rfl : k = m := by omega
      obtain ⟨A2, c2, rfl, pt, hcat⟩ := HI.out.pts HH.out.1 (fun p hp => (HH.out.2.1 p hp).1.1)
      have PT := Lib.hid pt
      have HCAT := Lib.hid hcat
      clear pt hcat hk hlt
      have SM := Lib.hid (KK.out.sum A2 k c2 qs wr PT.out (by rw [HCAT.out]; exact HY.out) (by rw [HCAT.out]; have := HL.out; omega) (by omega))
      rw [HCAT.out] at SM
      obtain ⟨s, hs⟩ : ∃ s, Cr.cs (cat ps) = s := ⟨_, rfl⟩
      rw [hs] at SM
      have HS := Lib.hid hs
      clear hs
      go_wp2_with fail
      refine SM.out.mono ?_; rintro e w2 ⟨rfl, q2⟩
      have HI2 := Lib.hid (HI.out.below q2)
      have HV2 := Lib.hid (HV.out.below q2)
      clear q2 SM PT HI HV HN
      go_wp2_with fail
      go_loopw [8, 44] (fun _ i wr => ∃ j : Nat, j ≤ k ∧ i = .int .i64 j ∧ Ins w wr ps k (.slice A2 k c2) qs ∧ New w wr v (cat ps)) (fun _ i _ => k - (intOf i).toNat)
      case atStart => exact ⟨0, Nat.zero_le _, rfl, HI2.out, HV2.out⟩
      case round =>
        obtain ⟨j, hj, rfl, hi, hv⟩ := hrel
        have HI := Lib.hid hi
        have HV := Lib.hid hv
        clear hi hv HI2 HV2
        by_cases hlt : j < k
        case neg =>
          obtain rfl : j = k := by omega
          obtain ⟨A3, c3, rfl, r3⟩ := HV.out.rd
          have RS := Lib.hid (rsum_any _ c3 A3 (cat ps) wr r3 HY.out (by have := HL.out; omega))
          rw [HS.out] at RS
          have KN := Lib.hid (fun W => known_crc KK.out W)
          have HB := Lib.hid HI.out.b
          obtain ⟨L, hL⟩ : ∃ L, (cat ps).length = L := ⟨_, rfl⟩
          rw [hL] at RS ⊢
          clear r3 HI HV hL
          go_wp2_with fail
          refine RS.out.mono ?_; rintro e w3 ⟨rfl, rfl⟩
          go_wp2_with fail
          refine (KN.out _).mono ?_; rintro e w4 ⟨rfl, q4⟩
          have B4 := Lib.hid (HB.out.trans (q4.mono HB.out.size))
          clear q4
          go_wp2_with fail
          go_ret
          exact ⟨rfl, B4.out⟩
        case pos =>
          obtain ⟨p, hp⟩ : ∃ p, ps[j]? = some p := ⟨ps[j]'(by rw [HH.out.1]; exact hlt), List.getElem?_eq_getElem _⟩
          obtain ⟨q, hq⟩ : ∃ q, qs[j]? = some q := ⟨qs[j]'(by rw [HI.out.len]; exact hlt), List.getElem?_eq_getElem _⟩
          obtain ⟨g, o, rfl, hc⟩ := HH.out.2.2 (by omega)
          have hcell := HI.out.b.cell (p := ⟨g, o + j, none⟩) (World.block_lt_of_cell? w _ (hc j p hp))
          rw [hc j p hp] at hcell
          have hok := (HH.out.2.1 p (List.mem_of_getElem? hp))
          have hpl := part_len ps p (List.mem_of_getElem? hp)
          rw [hok.1.1] at hpl
          have hokr := hok.1.below HI.out.b
          obtain ⟨gq, cq, rfl, ow⟩ := HI.out.each j p q hp hq
          obtain ⟨_, _, e0, pt, _⟩ := HI.out.pts HH.out.1 (fun p hp => (HH.out.2.1 p hp).1.1)
          simp only [Value.slice.injEq, true_and] at e0
          obtain ⟨rfl, rfl⟩ := e0
          obtain ⟨g2, o2, rfl, hc2⟩ := pt.2.2 (by omega)
          have hcell2 := hc2 j _ hq
          have hcq := own_cap ow
          obtain ⟨B, n, d, bs⟩ := p
          unfold Pt.v at hcell hcell2
          dsimp only at hcell hcell2 hokr hpl ow hcq
          obtain ⟨r1, m1⟩ := marked_at hokr.1 ow
          have k1 : ∀ z, (convert 23 9 (.slice (some ⟨gq, 0, none⟩) n cq)).run Try.prog (wr.drewN z) = .ok (.string (strOfNums bs)) (wr.drewN z) := fun z => conv_any (r1.below (below_drewN (Below.refl _ wr) z))
          have k2 : ∀ z, (convert 23 9 (.slice B n d)).run Try.prog (wr.drewN z) = .ok (.string (strOfNums bs)) (wr.drewN z) := fun z => conv_any (hokr.below (below_drewN (Below.refl _ wr) z))
          have hnb : n ≤ 20000 := by have := HL.out; omega
          have hd : decide ((j : Int) < k) = true := decide_eq_true (by omega)
          clear hc hc2 hok hokr hp hq hpl pt ow r1
          go_wp2_with fail
          go_quiet (fail)
          have hq0 := below_drewN (Below.refl wr.heap.size wr) nq
          have HI2 := Lib.hid (HI.out.below hq0)
          have HV2 := Lib.hid (HV.out.below hq0)
          clear hq0 k1 k2
          go_wp2_with fail
          go_roundw
          case rel => exact ⟨j + 1, hlt, by go_num, HI2.out, HV2.out⟩
          case measure => simp [intOf]; omega
    case pos =>
      obtain ⟨p, hp⟩ : ∃ p, ps[k]? = some p := ⟨ps[k]'(by rw [HH.out.1]; exact hlt), List.getElem?_eq_getElem _⟩
      obtain ⟨g, o, rfl, hc⟩ := HH.out.2.2 (by omega)
      have hcell := hc k p hp
      have hok := HH.out.2.1 p (List.mem_of_getElem? hp)
      have hpl := part_len ps p (List.mem_of_getElem? hp)
      rw [hok.1.1] at hpl
      have hokr := hok.1.below HI.out.b
      obtain ⟨B, n, d, bs⟩ := p
      unfold Pt.v at hcell
      dsimp only at hcell hokr hpl
      have HC := Lib.hid (fun (W : World) (b : Below w.heap.size w W) => (b.cell (p := ⟨g, o + k, none⟩) (World.block_lt_of_cell? w _ hcell)).trans hcell)
      have HR := Lib.hid hokr
      have HZ := Lib.hid hok.2
      dsimp only at HR HZ
      have hnb : n ≤ 20000 := by have := HL.out; omega
      have HP := Lib.hid hp
      have hd : decide ((k : Int) < m) = true := decide_eq_true (by omega)
      clear hc hok hokr hcell hp hpl
      go_wp2_with fail
      refine wp_region_held_drew (S := fun U => Below w.heap.size w U) (by kernel_rfl) HI.out.b.drew (fun hH => ?_)
      have hD : Below wr.heap.size wr wr.drew := (Below.refl _ wr).drew
      refine wpAnyH_take (i := 0) (v := u5) rfl (by kernel_rfl) (by kernel_rfl) (by kernel_rfl) (fun _ _ _ h => h) (.inl ⟨by rfl, ?_⟩) (by assumption) ?_
      · intro W hW; go_simp
      try simp only [List.getElem_toArray, List.getElem_cons_zero, Act.put, List.setIfInBounds_toArray, List.set_cons_zero, List.set_cons_succ]
      refine wpAnyH_take (i := 2) (v := .slice (some ⟨g, o, none⟩) m c) rfl (by kernel_rfl) (by kernel_rfl) (by kernel_rfl) (fun _ _ _ h => h) (.inl ⟨by rfl, ?_⟩) (by assumption) ?_
      · intro W hW; go_simp
      try simp only [List.getElem_toArray, List.getElem_cons_zero, List.getElem_cons_succ, Act.put, List.setIfInBounds_toArray, List.set_cons_zero, List.set_cons_succ]
      refine wpAnyH_take (i := 3) (v := .int .i64 (k : Nat)) rfl (by kernel_rfl) (by kernel_rfl) (by kernel_rfl) (fun _ _ _ h => h) (.inl ⟨by rfl, ?_⟩) (by assumption) ?_
      · intro W hW; go_simp
      try simp only [List.getElem_toArray, List.getElem_cons_zero, List.getElem_cons_succ, Act.put, List.setIfInBounds_toArray, List.set_cons_zero, List.set_cons_succ]
      refine wpAnyH_take (i := 4) (v := .pointer (some ⟨g, o + k, none⟩)) rfl (by kernel_rfl) (by kernel_rfl) (by kernel_rfl) (fun _ _ _ h => h) (.inl ⟨by rfl, ?_⟩) (by assumption) ?_
      · intro W hW; go_simp
      try simp only [List.getElem_toArray, List.getElem_cons_zero, List.getElem_cons_succ, Act.put, List.setIfInBounds_toArray, List.set_cons_zero, List.set_cons_succ]
      refine wpAnyH_take (i := 5) (v := .slice B n d) rfl (by kernel_rfl) (by kernel_rfl) (by kernel_rfl) (fun _ _ _ h => h) (.inl ⟨by rfl, ?_⟩) (by assumption) ?_
      · intro W hW; have h1 := HC.out W hW; go_simp
      try simp only [List.getElem_toArray, List.getElem_cons_zero, List.getElem_cons_succ, Act.put, List.setIfInBounds_toArray, List.set_cons_zero, List.set_cons_succ]
      refine wpAnyH_take (i := 9) (v := .slice (some ⟨g, o, none⟩) m c) rfl (by kernel_rfl) (by kernel_rfl) (by kernel_rfl) (fun _ _ _ h => h) (.inl ⟨by rfl, ?_⟩) (by assumption) ?_
      · intro W hW; go_simp
      try simp only [List.getElem_toArray, List.getElem_cons_zero, List.getElem_cons_succ, Act.put, List.setIfInBounds_toArray, List.set_cons_zero, List.set_cons_succ]
      refine wpAnyH_take (i := 10) (v := .int .i64 (k : Nat)) rfl (by kernel_rfl) (by kernel_rfl) (by kernel_rfl) (fun _ _ _ h => h) (.inl ⟨by rfl, ?_⟩) (by assumption) ?_
      · intro W hW; go_simp
      try simp only [List.getElem_toArray, List.getElem_cons_zero, List.getElem_cons_succ, Act.put, List.setIfInBounds_toArray, List.set_cons_zero, List.set_cons_succ]
      refine wpAnyH_take (i := 11) (v := .pointer (some ⟨g, o + k, none⟩)) rfl (by kernel_rfl) (by kernel_rfl) (by kernel_rfl) (fun _ _ _ h => h) (.inl ⟨by rfl, ?_⟩) (by assumption) ?_
      · intro W hW; go_simp
      try simp only [List.getElem_toArray, List.getElem_cons_zero, List.getElem_cons_succ, Act.put, List.setIfInBounds_toArray, List.set_cons_zero, List.set_cons_succ]
      refine wpAnyH_take (i := 12) (v := .slice B n d) rfl (by kernel_rfl) (by kernel_rfl) (by kernel_rfl) (fun _ _ _ h => h) (.inl ⟨by rfl, ?_⟩) (by assumption) ?_
      · intro W hW; have h1 := HC.out W hW; go_simp
      try simp only [List.getElem_toArray, List.getElem_cons_zero, List.getElem_cons_succ, Act.put, List.setIfInBounds_toArray, List.set_cons_zero, List.set_cons_succ]
      refine wpAnyH_take (i := 13) (v := .int .i64 (n : Nat)) rfl (by kernel_rfl) (by kernel_rfl) (by kernel_rfl) (fun _ _ _ h => h) (.inl ⟨by rfl, ?_⟩) (by assumption) ?_
      · intro W hW; go_simp
      try simp only [List.getElem_toArray, List.getElem_cons_zero, List.getElem_cons_succ, Act.put, List.setIfInBounds_toArray, List.set_cons_zero, List.set_cons_succ]
      refine anyH_abs (fun O q hO hq => ?_)
      have HO := Lib.hid hO
      have HQ := Lib.hid hq
      have HQP := Lib.hid (show ∀ (t : Option Nat) (v : Value) (c : _) (a : Act) (w : World), q (.panic c) (a.put t v) w → q (.panic c) a w by
        subst hq
        intro t v c a w h
        cases t <;> exact h)
      clear hO hq
      have T167 : Hid (∀ (U : World) (G1 G7 : Nat) (v6 : Value), Below wr.heap.size wr U → U.ownsRow wr.heap.size 5 1 v6 n (bs.map (Value.int .u8)) → U.heap[G7]? = some (.cells #[.int .u8 77] 5 (0, 0)) → wpAnyH Try.prog .any O q (fun U => Below w.heap.size w U) 5 #[true, true, true, true, true, true, true, true, false, true, true, true, true, true, false, false, false, false] { tmps := #[.slice (some ⟨g, o, none⟩) m c, undef, .bool false, v, .bool true, u5, .int .i64 (k : Nat), undef, undef, .tuple #[v, .bool true], .slice (some ⟨g, o, none⟩) m c, .tuple #[v, .bool true], v, .bool true, .bool true, .bool false, undef, .slice (some ⟨g, o, none⟩) m c, .int .i64 (m : Nat), .int .i64 (k : Nat), .bool true, .int .i64 (k : Nat), u5, .slice (some ⟨G1, 0, none⟩) 0 0, .slice (some ⟨g, o, none⟩) m c, .int .i64 (k : Nat), .pointer (some ⟨g, o + k, none⟩), .slice B n d, v6, .slice (some ⟨G7, 0, none⟩) 1 1, u30, .slice (some ⟨g, o, none⟩) m c, .int .i64 (k : Nat), .pointer (some ⟨g, o + k, none⟩), .slice B n d, .int .i64 (n : Nat), u36, u37, u38, u39, undef, undef, undef, undef, undef, undef, undef, undef, undef, undef, undef, undef, undef, undef, undef, undef, undef, undef, undef, undef, undef, undef, undef, undef, undef, undef, undef, undef, undef, undef, undef, undef, undef, undef, undef, undef, undef, undef, undef, undef, undef, undef, undef, undef, undef, undef, undef], defers := [] } U) := Lib.hid (by
        have eO := HO.out
        subst eO
        have eq := HQ.out
        subst eq
        intro U G1 G7 v6 hB O6 M7
        have hS := HI.out.b.trans (hB.mono HI.out.b.size)
        refine wpAnyH_ready (rs := [8]) (by decide +kernel) (by simp) (AllReadyH.cons rfl (fun K1 hK => ?_) AllReadyH.nil)
        refine step_append_lies U rfl (.tmp 28) (.tmp 29) 23 rfl wr.heap.size 5 i0 (.int .u8 0) 1 1 Try.underlying23 hi0 hz0 hz1 hz2 rfl (by decide) v6 n (bs.map (Value.int .u8)) rfl O6 ⟨G7, 0, none⟩ 1 1 [.int .u8 77] rfl rfl (World.news_of_block (cs := #[.int .u8 77]) M7) (by simp [Value.oneCell']) (by decide) (by unfold maxLen; omega) (by omega) hB.size _ rfl ?_
        intro g8 c8 U8x own8 gro8 _ _
        have hB8 := hB.grown gro8 hB.size (fun i hi => (O6.lt i hi).1)
        have hS8 := HI.out.b.trans (hB8.mono HI.out.b.size)
        have hc8 := own_cap own8
        have O8 := Lib.hid own8
        clear own8 gro8 O6 M7
        refine hK.out _ _ hS8 (fun _ => ?_)
        clear hK hS hB
        try simp only [List.setIfInBounds_toArray, List.set_cons_zero, List.set_cons_succ]
        refine wpAnyH_take (i := 14) (v := .slice (some ⟨g8, 0, none⟩) n c8) rfl (by kernel_rfl) (by kernel_rfl) (by kernel_rfl) (fun _ _ _ h => h) (.inl ⟨by rfl, ?_⟩) (by assumption) ?_
        · intro W hW; go_simp; intro h; omega
        try simp only [List.getElem_toArray, List.getElem_cons_zero, List.getElem_cons_succ, Act.put, List.setIfInBounds_toArray, List.set_cons_zero, List.set_cons_succ]
        refine wpAnyH_ready (rs := [15]) (by decide +kernel) (by simp) (AllReadyH.cons rfl (fun K1 hK => ?_) AllReadyH.nil)
        go_simp
        have hSa := hS8.alloc hS8.size (.cells #[.slice (some ⟨g8, 0, none⟩) n c8] 23)
        refine hK.out _ _ hSa (fun _ => ?_)
        clear hK
        try simp only [List.setIfInBounds_toArray, List.set_cons_zero, List.set_cons_succ]
        refine wpAnyH_ready (rs := [16]) (by decide +kernel) (by simp) (AllReadyH.cons rfl (fun K1 hK => ?_) AllReadyH.nil)
        have hI8 := HI.out.below hB8
        refine step_append_lies (U8x.alloc (.cells #[.slice (some ⟨g8, 0, none⟩) n c8] 23)) rfl (.tmp 22) (.tmp 37) 22 rfl w.heap.size 23 i1 (.slice none 0 0) 1 24 Try.underlying22 hi1 hy0 hy1 hy2 rfl (by decide) u5 k (qs.map Pt.v) rfl (hI8.own.alloc _) ⟨U8x.heap.size, 0, none⟩ 1 1 [.slice (some ⟨g8, 0, none⟩) n c8] rfl rfl (World.news_of_block (cs := #[.slice (some ⟨g8, 0, none⟩) n c8]) (heap_alloc_new U8x _)) (by simp [Value.oneCell']) (by decide) (by unfold maxLen; omega) (by omega) hSa.size _ rfl ?_
        intro g16 c16 U16 own16 gro16 _ _
        have N := Ins.next HI.out HP.out hB8 (by rw [List.map_append]; exact O8.out) own16 gro16
        have NV : New w U16 v (cat ps) := ⟨((HV.out.below hB8).o.alloc _).kept gro16 (rows_apart ((HV.out.below hB8).o.alloc _) (hI8.own.alloc (.cells #[.slice (some ⟨g8, 0, none⟩) n c8] 23))), N.b⟩
        have HN2 := Lib.hid N
        have HV2 := Lib.hid NV
        clear own16 gro16 N NV hI8 hS8 hB8
        have hS16 := HN2.out.b
        refine hK.out _ _ hS16 (fun _ => ?_)
        clear hK
        try simp only [List.setIfInBounds_toArray, List.set_cons_zero, List.set_cons_succ]
        refine wpAnyH_take (i := 17) (v := .slice (some ⟨g16, 0, none⟩) (k + 1) c16) rfl (by kernel_rfl) (by kernel_rfl) (by kernel_rfl) (fun _ _ _ h => h) (.inl ⟨by rfl, ?_⟩) (by assumption) ?_
        · intro W hW; go_simp
        try simp only [List.getElem_toArray, List.getElem_cons_zero, List.getElem_cons_succ, Act.put, List.setIfInBounds_toArray, List.set_cons_zero, List.set_cons_succ]
        refine wpAnyH_done (by decide +kernel) ?_ _
        clear hS16 hSa
        go_wp2_with fail
        go_roundw
        case rel => exact ⟨k + 1, _, hlt, by go_num, HN2.out, HV2.out⟩
        case measure => simp [intOf]; omega)
      have T16 : Hid (∀ (U : World) (G1 G7 : Nat) (v6 : Value), Below wr.heap.size wr U → U.ownsRow wr.heap.size 5 1 v6 n (bs.map (Value.int .u8)) → wpAnyH Try.prog .any O q (fun U => Below w.heap.size w U) 6 #[true, true, true, true, true, true, true, false, false, true, true, true, true, true, false, false, false, false] { tmps := #[.slice (some ⟨g, o, none⟩) m c, undef, .bool false, v, .bool true, u5, .int .i64 (k : Nat), undef, undef, .tuple #[v, .bool true], .slice (some ⟨g, o, none⟩) m c, .tuple #[v, .bool true], v, .bool true, .bool true, .bool false, undef, .slice (some ⟨g, o, none⟩) m c, .int .i64 (m : Nat), .int .i64 (k : Nat), .bool true, .int .i64 (k : Nat), u5, .slice (some ⟨G1, 0, none⟩) 0 0, .slice (some ⟨g, o, none⟩) m c, .int .i64 (k : Nat), .pointer (some ⟨g, o + k, none⟩), .slice B n d, v6, u29, u30, .slice (some ⟨g, o, none⟩) m c, .int .i64 (k : Nat), .pointer (some ⟨g, o + k, none⟩), .slice B n d, .int .i64 (n : Nat), u36, u37, u38, u39, undef, undef, undef, undef, undef, undef, undef, undef, undef, undef, undef, undef, undef, undef, undef, undef, undef, undef, undef, undef, undef, undef, undef, undef, undef, undef, undef, undef, undef, undef, undef, undef, undef, undef, undef, undef, undef, undef, undef, undef, undef, undef, undef, undef, undef, undef, undef], defers := [] } U) := Lib.hid (by
        intro U G1 G7 v6 hB O6
        have hS := HI.out.b.trans (hB.mono HI.out.b.size)
        refine wpAnyH_ready (rs := [7]) (by rw [HO.out]; decide +kernel) (by simp) (AllReadyH.cons (by rw [HO.out]; rfl) (fun K1 hK => ?_) AllReadyH.nil)
        · go_simp
          have hB2 := hB.alloc hB.size (.cells #[.int .u8 77] 5)
          have hS2 := HI.out.b.trans (hB2.mono HI.out.b.size)
          refine hK.out _ _ hS2 (fun _ => ?_)
          clear hK
          try simp only [List.setIfInBounds_toArray, List.set_cons_zero, List.set_cons_succ]
          exact anyH_eq (by kernel_rfl) (by kernel_rfl) (T167.out _ G1 U.heap.size v6 hB2 (O6.alloc _) (heap_alloc_new U _)))
      have T17 : Hid (∀ (U : World) (G1 G7 : Nat) (v6 : Value), Below wr.heap.size wr U → U.ownsRow wr.heap.size 5 1 (.slice (some ⟨G1, 0, none⟩) 0 0) 0 [] → U.heap[G7]? = some (.cells #[.int .u8 77] 5 (0, 0)) → G1 ≠ G7 → wpAnyH Try.prog .any O q (fun U => Below w.heap.size w U) 6 #[true, true, true, true, true, true, false, true, false, true, true, true, true, true, false, false, false, false] { tmps := #[.slice (some ⟨g, o, none⟩) m c, undef, .bool false, v, .bool true, u5, .int .i64 (k : Nat), undef, undef, .tuple #[v, .bool true], .slice (some ⟨g, o, none⟩) m c, .tuple #[v, .bool true], v, .bool true, .bool true, .bool false, undef, .slice (some ⟨g, o, none⟩) m c, .int .i64 (m : Nat), .int .i64 (k : Nat), .bool true, .int .i64 (k : Nat), u5, .slice (some ⟨G1, 0, none⟩) 0 0, .slice (some ⟨g, o, none⟩) m c, .int .i64 (k : Nat), .pointer (some ⟨g, o + k, none⟩), .slice B n d, u28, .slice (some ⟨G7, 0, none⟩) 1 1, u30, .slice (some ⟨g, o, none⟩) m c, .int .i64 (k : Nat), .pointer (some ⟨g, o + k, none⟩), .slice B n d, .int .i64 (n : Nat), u36, u37, u38, u39, undef, undef, undef, undef, undef, undef, undef, undef, undef, undef, undef, undef, undef, undef, undef, undef, undef, undef, undef, undef, undef, undef, undef, undef, undef, undef, undef, undef, undef, undef, undef, undef, undef, undef, undef, undef, undef, undef, undef, undef, undef, undef, undef, undef, undef, undef, undef], defers := [] } U) := Lib.hid (by
        intro U G1 G7 v6 hB O1 M7 hne
        have hS := HI.out.b.trans (hB.mono HI.out.b.size)
        refine wpAnyH_ready (rs := [6]) (by rw [HO.out]; decide +kernel) (by simp) (AllReadyH.cons (by rw [HO.out]; rfl) (fun K1 hK => ?_) AllReadyH.nil)
        · refine step_append_pt rfl (.tmp 23) (.tmp 27) rfl wr.heap.size (.slice (some ⟨G1, 0, none⟩) 0 0) 0 [] rfl O1 B n d bs rfl ((HR.out.below hB)) HZ.out (by omega) hB.size ?_
          intro v6' U6 own6 gro6
          have hB2 := hB.grown gro6 hB.size (fun i hi => (O1.lt i hi).1)
          have hS2 := HI.out.b.trans (hB2.mono HI.out.b.size)
          have O6' : U6.ownsRow wr.heap.size 5 1 v6' n (bs.map (Value.int .u8)) := by simpa using own6
          refine hK.out _ _ hS2 (fun _ => ?_)
          clear hK
          try simp only [List.setIfInBounds_toArray, List.set_cons_zero, List.set_cons_succ]
          exact anyH_eq (by kernel_rfl) (by kernel_rfl) (T167.out _ G1 G7 v6' hB2 O6' ((gro6.block G7 (lt_of_get M7) (by simp [Value.ownBlock]; omega)).trans M7)))
      have T1 : Hid (∀ (U : World) (G1 G7 : Nat) (v6 : Value), Below wr.heap.size wr U → U.ownsRow wr.heap.size 5 1 (.slice (some ⟨G1, 0, none⟩) 0 0) 0 [] → wpAnyH Try.prog .any O q (fun U => Below w.heap.size w U) 7 #[true, true, true, true, true, true, false, false, false, true, true, true, true, true, false, false, false, false] { tmps := #[.slice (some ⟨g, o, none⟩) m c, undef, .bool false, v, .bool true, u5, .int .i64 (k : Nat), undef, undef, .tuple #[v, .bool true], .slice (some ⟨g, o, none⟩) m c, .tuple #[v, .bool true], v, .bool true, .bool true, .bool false, undef, .slice (some ⟨g, o, none⟩) m c, .int .i64 (m : Nat), .int .i64 (k : Nat), .bool true, .int .i64 (k : Nat), u5, .slice (some ⟨G1, 0, none⟩) 0 0, .slice (some ⟨g, o, none⟩) m c, .int .i64 (k : Nat), .pointer (some ⟨g, o + k, none⟩), .slice B n d, u28, u29, u30, .slice (some ⟨g, o, none⟩) m c, .int .i64 (k : Nat), .pointer (some ⟨g, o + k, none⟩), .slice B n d, .int .i64 (n : Nat), u36, u37, u38, u39, undef, undef, undef, undef, undef, undef, undef, undef, undef, undef, undef, undef, undef, undef, undef, undef, undef, undef, undef, undef, undef, undef, undef, undef, undef, undef, undef, undef, undef, undef, undef, undef, undef, undef, undef, undef, undef, undef, undef, undef, undef, undef, undef, undef, undef, undef, undef], defers := [] } U) := Lib.hid (by
        intro U G1 G7 v6 hB O1
        have hS := HI.out.b.trans (hB.mono HI.out.b.size)
        refine wpAnyH_ready (rs := [6, 7]) (by rw [HO.out]; decide +kernel) (by simp) (AllReadyH.cons (by rw [HO.out]; rfl) (fun K1 hK => ?_) (AllReadyH.cons (by rw [HO.out]; rfl) (fun K1 hK => ?_) AllReadyH.nil))
        · refine step_append_pt rfl (.tmp 23) (.tmp 27) rfl wr.heap.size (.slice (some ⟨G1, 0, none⟩) 0 0) 0 [] rfl O1 B n d bs rfl ((HR.out.below hB)) HZ.out (by omega) hB.size ?_
          intro v6' U6 own6 gro6
          have hB2 := hB.grown gro6 hB.size (fun i hi => (O1.lt i hi).1)
          have hS2 := HI.out.b.trans (hB2.mono HI.out.b.size)
          have O6' : U6.ownsRow wr.heap.size 5 1 v6' n (bs.map (Value.int .u8)) := by simpa using own6
          refine hK.out _ _ hS2 (fun _ => ?_)
          clear hK
          try simp only [List.setIfInBounds_toArray, List.set_cons_zero, List.set_cons_succ]
          exact anyH_eq (by kernel_rfl) (by kernel_rfl) (T16.out _ G1 G7 v6' hB2 O6')
        · go_simp
          have hB2 := hB.alloc hB.size (.cells #[.int .u8 77] 5)
          have hS2 := HI.out.b.trans (hB2.mono HI.out.b.size)
          refine hK.out _ _ hS2 (fun _ => ?_)
          clear hK
          try simp only [List.setIfInBounds_toArray, List.set_cons_zero, List.set_cons_succ]
          exact anyH_eq (by kernel_rfl) (by kernel_rfl) (T17.out _ G1 U.heap.size v6 hB2 (O1.alloc _) (heap_alloc_new U _) (by have := (O1.lt G1 rfl).2; omega)))
      have T7 : Hid (∀ (U : World) (G1 G7 : Nat) (v6 : Value), Below wr.heap.size wr U → U.heap[G7]? = some (.cells #[.int .u8 77] 5 (0, 0)) → wpAnyH Try.prog .any O q (fun U => Below w.heap.size w U) 7 #[true, false, true, true, true, true, false, true, false, true, true, true, true, true, false, false, false, false] { tmps := #[.slice (some ⟨g, o, none⟩) m c, undef, .bool false, v, .bool true, u5, .int .i64 (k : Nat), undef, undef, .tuple #[v, .bool true], .slice (some ⟨g, o, none⟩) m c, .tuple #[v, .bool true], v, .bool true, .bool true, .bool false, undef, .slice (some ⟨g, o, none⟩) m c, .int .i64 (m : Nat), .int .i64 (k : Nat), .bool true, .int .i64 (k : Nat), u5, u23, .slice (some ⟨g, o, none⟩) m c, .int .i64 (k : Nat), .pointer (some ⟨g, o + k, none⟩), .slice B n d, u28, .slice (some ⟨G7, 0, none⟩) 1 1, u30, .slice (some ⟨g, o, none⟩) m c, .int .i64 (k : Nat), .pointer (some ⟨g, o + k, none⟩), .slice B n d, .int .i64 (n : Nat), u36, u37, u38, u39, undef, undef, undef, undef, undef, undef, undef, undef, undef, undef, undef, undef, undef, undef, undef, undef, undef, undef, undef, undef, undef, undef, undef, undef, undef, undef, undef, undef, undef, undef, undef, undef, undef, undef, undef, undef, undef, undef, undef, undef, undef, undef, undef, undef, undef, undef, undef], defers := [] } U) := Lib.hid (by
        intro U G1 G7 v6 hB M7
        have hS := HI.out.b.trans (hB.mono HI.out.b.size)
        refine wpAnyH_ready (rs := [1]) (by rw [HO.out]; decide +kernel) (by simp) (AllReadyH.cons (by rw [HO.out]; rfl) (fun K1 hK => ?_) AllReadyH.nil)
        · go_simp
          have hB2 := hB.alloc hB.size (.cells #[] 5)
          have hS2 := HI.out.b.trans (hB2.mono HI.out.b.size)
          refine hK.out _ _ hS2 (fun _ => ?_)
          clear hK
          try simp only [List.setIfInBounds_toArray, List.set_cons_zero, List.set_cons_succ]
          exact anyH_eq (by kernel_rfl) (by kernel_rfl) (T17.out _ U.heap.size G7 v6 hB2 (own_more U (own_none U) hB.size) ((heap_alloc_old U _ (lt_of_get M7)).trans M7) (by have := lt_of_get M7; omega)))
      have T : Hid (∀ (U : World) (G1 G7 : Nat) (v6 : Value), Below wr.heap.size wr U → wpAnyH Try.prog .any O q (fun U => Below w.heap.size w U) 8 #[true, false, true, true, true, true, false, false, false, true, true, true, true, true, false, false, false, false] { tmps := #[.slice (some ⟨g, o, none⟩) m c, undef, .bool false, v, .bool true, u5, .int .i64 (k : Nat), undef, undef, .tuple #[v, .bool true], .slice (some ⟨g, o, none⟩) m c, .tuple #[v, .bool true], v, .bool true, .bool true, .bool false, undef, .slice (some ⟨g, o, none⟩) m c, .int .i64 (m : Nat), .int .i64 (k : Nat), .bool true, .int .i64 (k : Nat), u5, u23, .slice (some ⟨g, o, none⟩) m c, .int .i64 (k : Nat), .pointer (some ⟨g, o + k, none⟩), .slice B n d, u28, u29, u30, .slice (some ⟨g, o, none⟩) m c, .int .i64 (k : Nat), .pointer (some ⟨g, o + k, none⟩), .slice B n d, .int .i64 (n : Nat), u36, u37, u38, u39, undef, undef, undef, undef, undef, undef, undef, undef, undef, undef, undef, undef, undef, undef, undef, undef, undef, undef, undef, undef, undef, undef, undef, undef, undef, undef, undef, undef, undef, undef, undef, undef, undef, undef, undef, undef, undef, undef, undef, undef, undef, undef, undef, undef, undef, undef, undef], defers := [] } U) := Lib.hid (by
        intro U G1 G7 v6 hB
        have hS := HI.out.b.trans (hB.mono HI.out.b.size)
        refine wpAnyH_ready (rs := [1, 7]) (by rw [HO.out]; decide +kernel) (by simp) (AllReadyH.cons (by rw [HO.out]; rfl) (fun K1 hK => ?_) (AllReadyH.cons (by rw [HO.out]; rfl) (fun K1 hK => ?_) AllReadyH.nil))
        · go_simp
          have hB2 := hB.alloc hB.size (.cells #[] 5)
          have hS2 := HI.out.b.trans (hB2.mono HI.out.b.size)
          refine hK.out _ _ hS2 (fun _ => ?_)
          clear hK
          try simp only [List.setIfInBounds_toArray, List.set_cons_zero, List.set_cons_succ]
          exact anyH_eq (by kernel_rfl) (by kernel_rfl) (T1.out _ U.heap.size G7 v6 hB2 (own_more U (own_none U) hB.size))
        · go_simp
          have hB2 := hB.alloc hB.size (.cells #[.int .u8 77] 5)
          have hS2 := HI.out.b.trans (hB2.mono HI.out.b.size)
          refine hK.out _ _ hS2 (fun _ => ?_)
          clear hK
          try simp only [List.setIfInBounds_toArray, List.set_cons_zero, List.set_cons_succ]
          exact anyH_eq (by kernel_rfl) (by kernel_rfl) (T7.out _ G1 U.heap.size v6 hB2 (heap_alloc_new U _)))
      exact anyH_eq (by kernel_rfl) (by kernel_rfl) (T.out _ 0 0 undef hD)
set_option maxRecDepth 100000 in
theorem sums_out (K : Crc) (A : Option Addr) (m c : Nat) (ps : List Pt) (w : World) (h : PtsAt w A m ps) (hn : ∀ p, p ∈ ps → p.n ≤ 140737488351232) (hm : m ≤ 140737488351232) (hb : 20000 < (cat ps).length ∨ 1000 < m) :
    Calls Try.prog 3 #[.slice A m c] w fun e w' => e = .returned (.bool true) ∧ Below w.heap.size w w' := by
  have AL := Lib.hid (all_parts A m c ps w h hn hm)
  have KN := Lib.hid (fun W => known_crc K W)
  have HB := Lib.hid hb
  clear h hn hm K hb
  go_enter Try.func3, Try.ntmps3
  go_wp2_with fail
  refine AL.out.mono ?_; rintro e w1 hE
  have HE : Hid (∃ v, e = .returned (.tuple #[v, .bool false]) ∧ Below w.heap.size w w1) := Lib.hid (by
    rcases hE with ⟨_, e1, b⟩ | ⟨c1, v, e1, n1⟩
    · exact ⟨_, e1, b⟩
    · have := HB.out
      rw [show decide ((m : Int) ≤ 1000) = false from decide_eq_false (by omega)] at e1
      exact ⟨v, e1, n1.q⟩)
  clear hE AL HB
  obtain ⟨v, rfl, b⟩ := HE.out
  have B := Lib.hid b
  clear b HE
  go_wp2_with fail
  refine (KN.out _).mono ?_; rintro e w2 ⟨rfl, q⟩
  have B2 := Lib.hid (B.out.trans (q.mono B.out.size))
  clear q
  go_wp2_with fail
  go_ret
  exact ⟨rfl, B2.out⟩
theorem walk_sums (K : Crc) (A : Option Addr) (m c : Nat) (ps : List Pt) (w : World) (h : PtsAt w A m ps) (hy : By (cat ps)) (hn : ∀ p, p ∈ ps → p.n ≤ 140737488351232) (hm : m ≤ 140737488351232) :
    Calls Try.prog 3 #[.slice A m c] w fun e w' => e = .returned (.bool true) ∧ Below w.heap.size w w' := by
  by_cases hb : 20000 < (cat ps).length ∨ 1000 < m
  · exact sums_out K A m c ps w h hn hm hb
  · exact sums_walk K A m c ps w h hy hn (by omega) (by omega)
end Go.Proofs.Ytknmchpikcnacaa
