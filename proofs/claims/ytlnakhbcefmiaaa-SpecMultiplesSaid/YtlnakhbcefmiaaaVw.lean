/- The program's own wire: Nat, Int. -/
import Derived.Test.YtlnakhbcefmiaaaBy
import Derived.Test.YtlnakhbcefmiaaaPt
import Derived.Test.YtlnakhbcefmiaaaRdMath
import Derived.Deep.RegionHeld3
import Derived.Lib.AppendZerosOnto
import Derived.Lib.SliceRun
import Derived.Lib.Walk
namespace Go.Proofs.Ytlnakhbcefmiaaa
open Go.RowKit


/-- A form was written behind a list. -/
def Wrote (base : Nat) (v : Value) (bs f : List Int) (W : World) (E : Ending) (W' : World) : Prop :=
  ∃ v', E = .returned v' ∧ W'.ownsRow base 5 1 v' (bs ++ f).length ((bs ++ f).map (Value.int .u8)) ∧ W.grownBy W' v.ownBlock
def Owns (W : World) (base : Nat) (v : Value) (bs : List Int) : Prop := W.ownsRow base 5 1 v bs.length (bs.map (Value.int .u8)) ∧ base ≤ W.heap.size ∧ bs.length ≤ 1000000
theorem Wrote.below {base : Nat} {v : Value} {bs f : List Int} {W : World} {E : Ending} {W' : World} (h : Wrote base v bs f W E W') (o : Owns W base v bs) {N : Nat} (hN : N ≤ base) : Below N W W' := by
  obtain ⟨v', _, _, hg⟩ := h
  exact (Below.refl _ W).grown hg (Nat.le_trans hN o.2.1) fun k hk => Nat.le_trans hN (o.1.lt k hk).1


set_option maxRecDepth 100000 in
theorem natural_any (n : Nat) (hn : n < 18446744073709551616) (w : World) : Calls Try.prog 46 #[.int .u64 n] w fun e W => Made w (nb n) e W := by
  have ht := nb_ten hn
  obtain ⟨i0, hi0, hz0, hz1, hz2⟩ := info_parts info_u8
  have HN := Lib.hid hn
  clear hn
  go_enter Try.func46, Try.ntmps46
  go_wp2_with fail
  go_loopw [0, 3] (fun x v wr => ∃ (m : Nat) (pre : List Int), x = .int .u64 m ∧ m ≤ 18446744073709551615 ∧ nb n = pre ++ nb m ∧ wr.ownsRow w.heap.size 5 1 v pre.length (pre.map (Value.int .u8)) ∧ Below w.heap.size w wr) (fun x _ _ => (intOf x).toNat)
  case atStart => exact ⟨n, [], rfl, by have := HN.out; omega, rfl, World.ownsRow_nil _ _ _ _, Below.refl _ _⟩
  case round =>
    obtain ⟨m, pre, rfl, hm, hpre, hown, hB⟩ := hrel
    have hl : pre.length + (nb m).length ≤ 10 := by rw [← List.length_append, ← hpre]; exact ht
    have hmp := nb_pos m
    have HB := Lib.hid hB
    have HO := Lib.hid hown
    have HP := Lib.hid hpre
    have hbs := HB.out.size
    clear hB hown hpre
    by_cases h : 128 ≤ m
    · have HH := Lib.hid (nb_big h)
      have N1 := Lib.hid (new_news wr ((m : Int) % 128 + 128))
      have N2 := Lib.hid (one_x ((m : Int) % 128 + 128))
      go_wp2_with (at_builtin; refine wpList_append_own _ rfl _ _ 30 rfl w.heap.size 5 i0 (.int .u8 0) 1 1 Try.underlying30 hi0 hz0 hz1 hz2 rfl (by decide) _ _ _ rfl (HO.out.alloc _) ⟨wr.heap.size, 0, none⟩ 1 1 [.int .u8 ((m : Int) % 128 + 128)] rfl rfl N1.out N2.out (by unfold maxLen; omega) (by omega) (by simp; omega) ?_; intro v' w1 hown' hgrow _; rw [← map_snoc] at hown'; have HO' := Lib.hid hown'; have HB' := Lib.hid ((HB.out.alloc HB.out.size _).grown hgrow (by have := HB.out.size; simp; omega) (fun j hj => (HO.out.lt j hj).1)); clear hown' hgrow)
      go_roundw
      case rel => exact ⟨m / 128, pre ++ [((m % 128 : Nat) : Int) + 128], by go_num, by omega, by rw [HP.out, HH.out]; simp, by rw [show ((m % 128 : Nat) : Int) = (m : Int) % 128 from by omega, List.length_append]; exact HO'.out, HB'.out⟩
      case measure => simp [intOf]; omega
    · have HH := Lib.hid (nb_small (n := m) (by omega))
      have N1 := Lib.hid (new_news wr (m : Int))
      have N2 := Lib.hid (one_x (m : Int))
      go_wp2_with (at_builtin; refine wpList_append_own _ rfl _ _ 30 rfl w.heap.size 5 i0 (.int .u8 0) 1 1 Try.underlying30 hi0 hz0 hz1 hz2 rfl (by decide) _ _ _ rfl (HO.out.alloc _) ⟨wr.heap.size, 0, none⟩ 1 1 [.int .u8 (m : Int)] rfl rfl N1.out N2.out (by unfold maxLen; omega) (by omega) (by simp; omega) ?_; intro v' w1 hown' hgrow _; rw [← map_snoc] at hown'; have HO' := Lib.hid hown'; have HB' := Lib.hid ((HB.out.alloc HB.out.size _).grown hgrow (by have := HB.out.size; simp; omega) (fun j hj => (HO.out.lt j hj).1)); clear hown' hgrow)
      go_ret
      refine ⟨_, rfl, ?_, HB'.out⟩
      rw [HP.out, HH.out, List.length_append]
      exact HO'.out

set_option maxRecDepth 100000 in
theorem grow_any (n : Nat) (hn : n ≤ 4000000) (w : World) : Calls Try.prog 41 #[.slice none 0 0, .int .i64 n] w fun e W => Made w [] e W := by
  obtain ⟨i0, hi0, hz0, hz1, hz2⟩ := info_parts info_u8
  rcases Nat.eq_zero_or_pos n with rfl | hp
  · go_enter Try.func41, Try.ntmps41
    go_wp2
    go_ret
    exact ⟨_, rfl, World.ownsRow_nil _ _ _ _, Below.refl _ _⟩
  · have hold : (Builtin.firstCells i0.size 0 (.slice none 0 0)).run Try.prog w.drew = .ok ([] : List Value).toArray w.drew := run_firstCells_none w.drew i0.size 0 0 0
    have hrz : ∀ ty, (Builtin.append_ #[30, 3] ty #[.slice none 0 0, .int .i64 n]).run Try.prog w =
        .ok (.slice (some ⟨w.heap.size, 0, none⟩) n (grownCap w n 0 5)) (w.drew.alloc (.cells (([] : List Value).toArray ++ Builtin.zeroCells (Value.int .u8 0).cells n ++ Builtin.zeroCells (Value.int .u8 0).cells (grownCap w n 0 5 - n)) 5)) := fun ty => by
      have h := Lib.run_append_grow_zeros w 30 3 ty 5 i0 (.int .u8 0) .i64 .i64 Try.underlying30 Try.underlying3 hi0 hz0 none 0 0 [] hold n hp (by omega) (by omega) (by omega) (by rw [hz2]; omega) (growslice_fits (by omega) (by rw [hz2]; omega))
      rwa [Nat.zero_add] at h
    have hge := grownCap_ge w n 0 5
    have hle := grownCap_le_maxLen w n 0 5 (by unfold maxLen; omega)
    obtain ⟨G, hG⟩ : ∃ G, grownCap w n 0 5 = G := ⟨_, rfl⟩
    rw [hG] at hrz hge hle
    have hG63 : G ≤ 9223372036854775807 := by unfold maxLen at hle; omega
    have hsz : (([] : List Value).toArray ++ Builtin.zeroCells (Value.int .u8 0).cells n ++ Builtin.zeroCells (Value.int .u8 0).cells (G - n)).size = G * 1 := by
      simp [Builtin.zeroCells, Value.cells]; omega
    have O := Lib.hid (World.ownsRow_made (base := w.heap.size) (e := 5) (size := 1) w.drew _ G (Nat.le_refl _) hle hsz)
    have Q := Lib.hid ((Below.refl w.heap.size w).drew.alloc (Nat.le_refl _) (.cells (([] : List Value).toArray ++ Builtin.zeroCells (Value.int .u8 0).cells n ++ Builtin.zeroCells (Value.int .u8 0).cells (G - n)) 5))
    obtain ⟨W, hW⟩ : ∃ W, w.drew.alloc (.cells (([] : List Value).toArray ++ Builtin.zeroCells (Value.int .u8 0).cells n ++ Builtin.zeroCells (Value.int .u8 0).cells (G - n)) 5) = W := ⟨_, rfl⟩
    rw [hW] at O Q hrz
    clear hsz hold hG hW
    go_enter Try.func41, Try.ntmps41
    go_wp2_with (at_builtin; refine Lib.wpList_append_run _ rfl _ _ _ _ rfl _ _ rfl rfl _ _ (hrz _) ?_)
    go_ret
    exact ⟨_, rfl, O.out, Q.out⟩
set_option maxRecDepth 100000 in
set_option maxHeartbeats 1000000 in
theorem concat_any (g m : Nat) (ps : List Pt) (w : World) (hm : ps.length = m) (hm2 : m ≤ 1000) (hc : ∀ j p, ps[j]? = some p → w.cell? ⟨g, j, none⟩ = some p.v) (ho : ∀ p, p ∈ ps → p.ok w) (hT : (cat ps).length ≤ 4000000) :
    Calls Try.prog 31 #[.slice (some ⟨g, 0, none⟩) m m] w fun e W => Made w (cat ps) e W := by
  obtain ⟨i0, hi0, hz0, hz1, hz2⟩ := info_parts info_u8
  have HC := Lib.hid hc
  have HO := Lib.hid ho
  have HM := Lib.hid hm
  clear hc ho hm
  go_enter Try.func31, Try.ntmps31
  go_wp2_with fail
  go_loop [3, 5, 11] (fun z _ i => ∃ k : Nat, k ≤ m ∧ i = .int .i64 k ∧ z = .int .i64 (cat (ps.take k)).length) (fun _ _ i => m - (intOf i).toNat)
  case atStart => exact ⟨0, Nat.zero_le _, rfl, rfl⟩
  case round =>
    obtain ⟨k, hk, rfl, rfl⟩ := hrel
    by_cases hlt : k < m
    case pos =>
      obtain ⟨p, hp⟩ : ∃ p, ps[k]? = some p := ⟨ps[k]'(by rw [HM.out]; exact hlt), List.getElem?_eq_getElem _⟩
      have hcell := HC.out k p hp
      have h1 := cat_take ps k p hp
      have h2 := cat_le ps (k + 1)
      have h3 := congrArg List.length h1
      rw [List.length_append, (HO.out p (List.mem_of_getElem? hp)).1.1] at h3
      obtain ⟨L, hL⟩ : ∃ L, (cat (ps.take k)).length = L := ⟨_, rfl⟩
      obtain ⟨A, n, c, bs⟩ := p
      unfold Pt.v at hcell
      dsimp only at hcell h3
      rw [hL] at h3
      have hb : L + n ≤ 4000000 := by omega
      have H3 := Lib.hid h3
      rw [hL]
      clear h1 h2 h3 hp hL
      go_wp2
      go_round
      case rel => exact ⟨k + 1, hlt, by go_num, by rw [H3.out]; go_num⟩
      case measure => simp [intOf]; omega
    case neg =>
      obtain rfl : k = m := by omega
      have hT' : (cat (ps.take k)).length ≤ 4000000 := by have := cat_le ps k; omega
      have G := Lib.hid (grow_any (cat (ps.take k)).length hT' w)
      obtain ⟨L, hL⟩ : ∃ L, (cat (ps.take k)).length = L := ⟨_, rfl⟩
      rw [hL] at G hT' ⊢
      clear hL
      go_wp2_with fail
      refine G.out.mono ?_; rintro e w1 ⟨v, rfl, hN⟩
      have O0 := Lib.hid hN.o
      have B0 := Lib.hid hN.q
      clear hN G
      go_wp2_with fail
      go_loopw [6, 8, 27] (fun v _ i wr => ∃ j : Nat, j ≤ k ∧ i = .int .i64 j ∧ wr.ownsRow w.heap.size 5 1 v (cat (ps.take j)).length ((cat (ps.take j)).map (Value.int .u8)) ∧ Below w.heap.size w wr) (fun _ _ i _ => k - (intOf i).toNat)
      case atStart => exact ⟨0, Nat.zero_le _, rfl, O0.out, B0.out⟩
      case round =>
        obtain ⟨j, hj, rfl, hown, hB⟩ := hrel
        have HW := Lib.hid hown
        have HB := Lib.hid hB
        clear hown hB
        by_cases hlt : j < k
        case neg =>
          obtain rfl : j = k := by omega
          go_wp2
          go_ret
          refine ⟨_, rfl, ?_, HB.out⟩
          have e : ps.take j = ps := List.take_of_length_le (by rw [HM.out]; exact Nat.le_refl _)
          have := HW.out
          rwa [e] at this
        case pos =>
          obtain ⟨p, hp⟩ : ∃ p, ps[j]? = some p := ⟨ps[j]'(by rw [HM.out]; exact hlt), List.getElem?_eq_getElem _⟩
          have hcell := (HB.out.cell (World.block_lt_of_cell? w _ (HC.out j p hp))).trans (HC.out j p hp)
          have h1 := cat_take ps j p hp
          have h2 := cat_le ps (j + 1)
          have h3 := congrArg List.length h1
          have hok := HO.out p (List.mem_of_getElem? hp)
          rw [List.length_append, hok.1.1] at h3
          have hr := hok.1.below HB.out
          have h0 := hok.2
          have hbs := HB.out.size
          obtain ⟨A, n, c, bs⟩ := p
          unfold Pt.v at hcell
          dsimp only at hcell h3 hr h0 h1
          have hl := hr.1
          have H1 := Lib.hid h1
          have hb : (cat (ps.take j)).length + n ≤ 4000000 := by omega
          have H3 := Lib.hid h3
          have e2 : ((cat (ps.take (j + 1))).map (Value.int .u8)) = (cat (ps.take j)).map (Value.int .u8) ++ bs.map (Value.int .u8) := by rw [h1, List.map_append]
          have E2 := Lib.hid e2
          obtain ⟨L, hL⟩ : ∃ L, (cat (ps.take j)).length = L := ⟨_, rfl⟩
          obtain ⟨X, hX⟩ : ∃ X, (cat (ps.take j)).map (Value.int .u8) = X := ⟨_, rfl⟩
          rw [hL, hX] at HW
          rw [hL] at H3 hb
          rw [hX] at E2
          clear h1 h2 h3 hp hL hX hok e2
          cases A with
          | none =>
            obtain ⟨rfl, rfl⟩ := h0 rfl
            have : bs = [] := List.eq_nil_of_length_eq_zero hl
            subst this
            clear h0 hr hl
            go_wp2_with (at_builtin; refine wpList_append_own_none rfl _ _ 30 rfl w.heap.size 5 i0 1 Try.underlying30 hi0 _ _ _ rfl HW.out rfl ?_)
            go_roundw
            case rel => exact ⟨j + 1, hlt, by go_num, by rw [H3.out, E2.out]; simpa using HW.out, HB.out⟩
            case measure => simp [intOf]; omega
          | some ad =>
            have NW := Lib.hid (news_rd hr)
            have HL : Hid ((bs.map (Value.int .u8)).length = n * 1) := Lib.hid (by simp [hl])
            clear h0 hr hl
            go_wp2_with (at_builtin; refine wpList_append_own _ rfl _ _ 30 rfl w.heap.size 5 i0 (.int .u8 0) 1 1 Try.underlying30 hi0 hz0 hz1 hz2 rfl (by decide) _ _ _ rfl HW.out ad n c (bs.map (Value.int .u8)) rfl HL.out NW.out (one_u8 _) (by unfold maxLen; omega) (by omega) hbs ?_; intro v2 w2 hown2 hgrow2 _; have HG := Lib.hid (HB.out.grown hgrow2 hbs (fun j hj => (HW.out.lt j hj).1)); have HW2 := Lib.hid hown2; clear hown2 hgrow2)
            go_roundw
            case rel => exact ⟨j + 1, hlt, by go_num, by rw [H3.out, E2.out]; exact HW2.out, HG.out⟩
            case measure => simp [intOf]; omega

theorem made_wrote {W : World} {base : Nat} {v : Value} {bs f : List Int} {E : Ending} {W' : World} (hb : base ≤ W.heap.size) (h : Made W (bs ++ f) E W') : Wrote base v bs f W E W' := by
  obtain ⟨v', e, hn⟩ := h
  exact ⟨v', e, own_less hn.o hb, below_grown hn.q _⟩
set_option maxRecDepth 100000 in
theorem wnat_any (base : Nat) (v : Value) (bs : List Int) (k : Nat) (W : World) (h : Owns W base v bs) (hk : k < 18446744073709551616) :
    Calls Try.prog 39 #[v, .int .u64 k] W fun E W' => Wrote base v bs (nb k) W E W' := by
  obtain ⟨ho, hb, hl⟩ := h
  have ht := nb_ten hk
  obtain ⟨A, c, rfl, hr, h0⟩ := owns_pt ho
  have K := Lib.hid (natural_any k hk W)
  have HR := Lib.hid hr
  have H0 := Lib.hid h0
  clear ho hr h0
  obtain ⟨L, hL⟩ : ∃ L, bs.length = L := ⟨_, rfl⟩
  rw [hL] at HR H0 hl ⊢
  have HB := Lib.hid hb
  clear hb
  refine Calls.mono (R := fun E W' => Made W (bs ++ nb k) E W') ?_ fun E W' h => made_wrote HB.out h
  go_enter Try.func39, Try.ntmps39
  go_wp2_with fail
  refine K.out.mono ?_; rintro e w1 ⟨v1, rfl, hN⟩
  obtain ⟨A1, c1, rfl, hr1, h01⟩ := owns_pt hN.o
  have CC := Lib.hid (concat_any w1.heap.size 2 [⟨A, L, c, bs⟩, ⟨A1, (nb k).length, c1, nb k⟩] (w1.alloc (.cells #[.slice A L c, .slice A1 (nb k).length c1] 30)) rfl (by decide) (two_at w1 ⟨A, L, c, bs⟩ ⟨A1, (nb k).length, c1, nb k⟩)
    (by
      intro p hp
      simp only [List.mem_cons, List.not_mem_nil, or_false] at hp
      rcases hp with rfl | rfl
      · exact ⟨(HR.out.below hN.q).below ((Below.refl _ w1).alloc (Nat.le_refl _) _), H0.out⟩
      · exact ⟨hr1.below ((Below.refl _ w1).alloc (Nat.le_refl _) _), h01⟩)
    (by simp [cat]; omega))
  have Q1 := Lib.hid (hN.q.alloc hN.q.size (.cells #[.slice A L c, .slice A1 (nb k).length c1] 30))
  have hs := hN.q.size
  obtain ⟨M, hM⟩ : ∃ M, (nb k).length = M := ⟨_, rfl⟩
  rw [hM] at CC Q1 ⊢
  clear hN hr1 h01 K hM
  go_wp2_with fail
  refine CC.out.mono ?_; rintro e w2 ⟨v2, rfl, hN2⟩
  have Q2 := Lib.hid (Q1.out.trans (hN2.q.mono Q1.out.size))
  have O2 := Lib.hid (own_less hN2.o Q1.out.size)
  clear hN2
  go_wp2_with fail
  go_ret
  refine ⟨_, rfl, ?_, Q2.out⟩
  have := O2.out
  simpa [cat] using this
theorem xor_zero {k : Int} (h0 : 0 ≤ k) (h1 : k ≤ 9223372036854775807) : bits .xor .u64 (k * 2) (k / 9223372036854775808) = (((2 * k).toNat : Nat) : Int) := by
  have := bits_xor_u64_nat (2 * k).toNat 0 (by omega) (by omega)
  rw [Nat.xor_zero] at this
  rw [show k / 9223372036854775808 = ((0 : Nat) : Int) by omega, show k * 2 = (((2 * k).toNat : Nat) : Int) by omega]
  exact this
theorem xor_ones (a : Nat) (h : a < 18446744073709551616) : a ^^^ 18446744073709551615 = 18446744073709551615 - a := by
  have e := congrArg BitVec.toNat (BitVec.xor_allOnes (x := BitVec.ofNat 64 a))
  rw [BitVec.toNat_xor, BitVec.toNat_not, BitVec.toNat_allOnes, BitVec.toNat_ofNat, Nat.mod_eq_of_lt (by omega)] at e
  exact e
theorem xor_neg {k : Int} (h0 : k < 0) (h1 : -9223372036854775808 ≤ k) : bits .xor .u64 (IntKind.u64.wrap (IntKind.u64.wrap k * 2)) (IntKind.u64.wrap (k / 9223372036854775808)) = (((2 * (-(k + 1)) + 1).toNat : Nat) : Int) := by
  have e1 : IntKind.u64.wrap (IntKind.u64.wrap k * 2) = (((2 * k + 18446744073709551616).toNat : Nat) : Int) := by rw [IntKind.wrap_u64, IntKind.wrap_u64]; omega
  have e2 : IntKind.u64.wrap (k / 9223372036854775808) = ((18446744073709551615 : Nat) : Int) := by rw [IntKind.wrap_u64]; omega
  rw [e1, e2, bits_xor_u64_nat _ _ (by omega) (by omega), xor_ones _ (by omega)]
  congr 1; omega
set_option maxRecDepth 100000 in
theorem wint_any (base : Nat) (v : Value) (bs : List Int) (k : Int) (W : World) (h : Owns W base v bs) (hk : -9223372036854775808 ≤ k ∧ k ≤ 9223372036854775807) :
    Calls Try.prog 40 #[v, .int .i64 k] W fun E W' => Wrote base v bs (ib k) W E W' := by
  by_cases h0 : 0 ≤ k
  · have C := wnat_any base v bs (2 * k).toNat W h (by omega)
    rw [← xor_zero h0 hk.2, show nb (2 * k).toNat = ib k from (if_pos h0).symm] at C
    have CC := Lib.hid C
    clear h C
    go_enter Try.func40, Try.ntmps40
    go_wp2_with fail
    refine CC.out.mono ?_; rintro e w1 ⟨v', rfl, r⟩
    have R := Lib.hid r
    clear r
    go_wp2_with fail
    go_ret
    exact ⟨_, rfl, R.out⟩
  · have C := wnat_any base v bs (2 * (-(k + 1)) + 1).toNat W h (by omega)
    rw [← xor_neg (by omega) hk.1, show nb (2 * (-(k + 1)) + 1).toNat = ib k from (if_neg h0).symm] at C
    have CC := Lib.hid C
    clear h C
    go_enter Try.func40, Try.ntmps40
    go_wp2_with fail
    refine CC.out.mono ?_; rintro e w1 ⟨v', rfl, r⟩
    have R := Lib.hid r
    clear r
    go_wp2_with fail
    go_ret
    exact ⟨_, rfl, R.out⟩
end Go.Proofs.Ytlnakhbcefmiaaa
