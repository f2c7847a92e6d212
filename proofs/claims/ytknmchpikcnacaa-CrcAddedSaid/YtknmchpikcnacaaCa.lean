/- The walk of the statement CrcAdded, its loop, given the program's own calls. -/
import Derived.Test.YtknmchpikcnacaaCb
import Derived.Laws.Cover1
namespace Go.Proofs.Ytknmchpikcnacaa
open Go.RowKit

theorem bt_xor3 {a b c d : List Int} {n : Nat} (h : ∀ j, j < n → d.getD j 0 = (((a.getD j 0).toNat ^^^ (b.getD j 0).toNat ^^^ (c.getD j 0).toNat : Nat) : Int)) (i : Nat) (hi : i < 8 * n) :
    Cr.bt d i = (Cr.bt (a.take n) i ^^ Cr.bt (b.take n) i ^^ Cr.bt (c.take n) i) := by
  unfold Cr.bt
  rw [h (i / 8) (by omega), Int.toNat_natCast, Nat.testBit_xor, Nat.testBit_xor]
  simp only [List.getD, List.getElem?_take, show i / 8 < n by omega, if_true]
/-- What the loop has made so far. -/
def Added (a b c d : List Int) (n k : Nat) : Prop := d.length = n ∧ By d ∧ ∀ j, j < k → d.getD j 0 = (((a.getD j 0).toNat ^^^ (b.getD j 0).toNat ^^^ (c.getD j 0).toNat : Nat) : Int)
theorem Added.next {a b c d : List Int} {n k x y z : Nat} (h : Added a b c d n k) (hk : k < n) (hx : a.getD k 0 = x) (hy : b.getD k 0 = y) (hz : c.getD k 0 = z) (x8 : x < 256) (y8 : y < 256) (z8 : z < 256) : Added a b c (d.set k (((x ^^^ y ^^^ z : Nat)) : Int)) n (k + 1) := by
  refine ⟨by rw [List.length_set]; exact h.1, fun t ht => ?_, fun j hj => ?_⟩
  · rcases List.mem_or_eq_of_mem_set ht with e | e
    · exact h.2.1 t e
    · have : x ^^^ y ^^^ z < 2 ^ 8 := Nat.xor_lt_two_pow (Nat.xor_lt_two_pow x8 y8) z8
      omega
  · by_cases e : j = k
    · subst e
      rw [hx, hy, hz, Int.toNat_natCast, Int.toNat_natCast, Int.toNat_natCast]
      simp [List.getD, h.1, hk]
    · rw [← h.2.2 j (by omega)]
      simp [List.getD, Ne.symm e]
theorem byte_at {a : List Int} (h : By a) {k : Nat} (hk : k < a.length) : ∃ x : Nat, a.getD k 0 = x ∧ x < 256 := by
  have hb := h _ (List.getElem_mem hk)
  refine ⟨a[k].toNat, ?_, by omega⟩
  simp only [List.getD, List.getElem?_eq_getElem hk, Option.getD_some]
  omega
theorem RdB.lead {W : World} {A : Option Addr} {n k : Nat} {bs : List Int} (r : RdB W A n bs) (hk : k ≤ n) : RdB W A k (bs.take k) :=
  ⟨by rw [List.length_take, r.1]; omega, fun hn => by
    obtain ⟨b, o, e1, hc⟩ := r.2 (by omega)
    exact ⟨b, o, e1, fun j hj => by rw [hc j (by omega)]; simp [List.getD, hj]⟩⟩
theorem wpAnyH_abs {P : Program} {md : Region.Mode} {ops : Array Oper} {Q : Exit → Act → World → Prop} {S : World → Prop} {f : Nat} {l : Array Bool} {a : Act} {w : World}
    (h : ∀ O q, O = ops → q = Q → wpAnyH P md O q S f l a w) : wpAnyH P md ops Q S f l a w := h _ _ rfl rfl
theorem wpAnyH_eq {P : Program} {md : Region.Mode} {ops : Array Oper} {Q : Exit → Act → World → Prop} {S : World → Prop} {f f' : Nat} {l l' : Array Bool} {a : Act} {w : World}
    (hf : f = f') (hl : l = l') (h : wpAnyH P md ops Q S f' l' a w) : wpAnyH P md ops Q S f l a w := by subst hf hl; exact h

set_option maxRecDepth 100000 in
set_option maxHeartbeats 16000000 in
theorem added_walk (K : Crc) (A B C : Option Addr) (la ca lb cb lc cc : Nat) (xs ys zs : List Int) (w : World) (ha : RdB w A la xs) (hb : RdB w B lb ys) (hc : RdB w C lc zs) (ya : By xs) (yb : By ys) (yc : By zs)
    (a0 : A = none → la = 0 ∧ ca = 0) (b0 : B = none → lb = 0 ∧ cb = 0) (c0 : C = none → lc = 0 ∧ cc = 0) (ka : la ≤ ca) (kb : lb ≤ cb) (kc : lc ≤ cc) (ma : ca ≤ maxLen) (_mb : cb ≤ maxLen) (_mc : cc ≤ maxLen)
    (n : Nat) (hn : n ≤ 20000) (hmin : (if (lc : Int) < (if (lb : Int) < (la : Int) then (lb : Int) else (la : Int)) then (lc : Int) else (if (lb : Int) < (la : Int) then (lb : Int) else (la : Int))) = (n : Int)) (na : n ≤ la) (nb : n ≤ lb) (nc : n ≤ lc) :
    Calls Try.prog 7 #[.slice A la ca, .slice B lb cb, .slice C lc cc] w fun e w' => e = .returned (.bool true) ∧ Below w.heap.size w w' := by
  obtain ⟨i0, hi0, hz0, hz1, hz2⟩ := info_parts info_u8
  obtain ⟨wd, hr, ho, hg⟩ := run_make_full (P := Try.prog) w w.heap.size 23 5 i0 (.int .u8 0) 1 Try.underlying23 hi0 hz0 hz1 .i64 .i64 n (by rw [hz2]; omega) (by unfold maxLen; omega) (Nat.le_refl _)
  rw [made_zeros] at ho
  have HAA := Lib.hid ha
  have HBB := Lib.hid hb
  have HCC := Lib.hid hc
  have YA := Lib.hid ya
  have YB := Lib.hid yb
  have YC := Lib.hid yc
  have LA := Lib.hid ha.1
  have LB := Lib.hid hb.1
  have LC := Lib.hid hc.1
  have O0 := Lib.hid ho
  have B0 := Lib.hid ((Below.refl w.heap.size w).grown hg (Nat.le_refl _) (fun k hk => by cases hk))
  have AZ : Hid (Added xs ys zs (List.replicate n 0) n 0) := Lib.hid ⟨List.length_replicate, fun x hx => by have := List.eq_of_mem_replicate hx; omega, fun j hj => absurd hj (Nat.not_lt_zero j)⟩
  have KN := Lib.hid (fun W => known_crc K W)
  have KK := Lib.hid K
  have hmr : ∀ W, (Builtin.min_ #[3, 3, 3] 3 #[.int .i64 la, .int .i64 lb, .int .i64 lc]).run Try.prog W = .ok (.int .i64 n) W := fun W => by rw [run_min_int3, hmin]
  unfold maxLen at ma _mb _mc
  clear ha hb hc ya yb yc ho hg K hmin
  go_enter Try.func7, Try.ntmps7
  go_wp2_with fail
  go_loopw [9, 24] (fun _ i wr => ∃ (k : Nat) (ds : List Int), k ≤ n ∧ i = .int .i64 k ∧ Added xs ys zs ds n k ∧ wr.ownsRow w.heap.size 5 1 (.slice (some ⟨w.heap.size, 0, none⟩) n n) n (ds.map (Value.int .u8)) ∧ Below w.heap.size w wr) (fun _ i _ => n - (intOf i).toNat)
  case atStart => exact ⟨0, List.replicate n 0, Nat.zero_le _, rfl, AZ.out, O0.out, B0.out⟩
  case round =>
    obtain ⟨k, ds, hk, rfl, had, ho, hB⟩ := hrel
    have HAD := Lib.hid had
    have HO := Lib.hid ho
    have HB := Lib.hid hB
    clear had ho hB
    by_cases hlt : k < n
    case pos =>
      obtain ⟨ba, oa, rfl, pa⟩ := HAA.out.2 (by omega)
      obtain ⟨bb, ob, rfl, pb⟩ := HBB.out.2 (by omega)
      obtain ⟨bc, oc, rfl, pc⟩ := HCC.out.2 (by omega)
      have ca1 := pa k (by omega)
      have cb1 := pb k (by omega)
      have cc1 := pc k (by omega)
      obtain ⟨x, hx, x8⟩ := byte_at YA.out (k := k) (by rw [LA.out]; omega)
      obtain ⟨y, hyy, y8⟩ := byte_at YB.out (k := k) (by rw [LB.out]; omega)
      obtain ⟨z, hz, z8⟩ := byte_at YC.out (k := k) (by rw [LC.out]; omega)
      have AN := Lib.hid (HAD.out.next hlt hx hyy hz x8 y8 z8)
      rw [hx] at ca1
      rw [hyy] at cb1
      rw [hz] at cc1
      have CA := Lib.hid ca1
      have CB := Lib.hid cb1
      have CC := Lib.hid cc1
      have X1 := xor_u8 x y x8 y8
      have X2 := xor_u8 (x ^^^ y) z (Nat.xor_lt_two_pow (n := 8) x8 y8) z8
      have hf := (own_put (k := k) HO.out 0).2.1
      have hdc := HO.out.cellAt k (by omega)
      rw [List.getElem?_map, List.getElem?_eq_getElem (by rw [HAD.out.1]; exact hlt), Option.map_some] at hdc
      have k1 : k < la := by omega
      have k2 : k < lb := by omega
      have k3 : k < lc := by omega
      have hxy : (x ^^^ y) < 256 := Nat.xor_lt_two_pow (n := 8) x8 y8
      clear pa pb pc ca1 cb1 cc1 hx hyy hz
      go_wp2_with fail
      refine wp_region_held_drew (S := fun U => Below w.heap.size w U) (by kernel_rfl) HB.out.drew (fun hH => ?_)
      refine wpAnyH_take (i := 0) (v := .slice (some ⟨w.heap.size, 0, none⟩) n n) rfl (by kernel_rfl) (by kernel_rfl) (by kernel_rfl) (fun _ _ _ h => h) (.inl ⟨by rfl, ?_⟩) (by assumption) ?_
      · intro W hW; go_simp
      try simp only [List.getElem_toArray, List.getElem_cons_zero, Act.put, List.setIfInBounds_toArray, List.set_cons_zero, List.set_cons_succ]
      refine wpAnyH_take (i := 1) (v := .int .i64 k) rfl (by kernel_rfl) (by kernel_rfl) (by kernel_rfl) (fun _ _ _ h => h) (.inl ⟨by rfl, ?_⟩) (by assumption) ?_
      · intro W hW; go_simp
      try simp only [List.getElem_toArray, List.getElem_cons_zero, List.getElem_cons_succ, Act.put, List.setIfInBounds_toArray, List.set_cons_zero, List.set_cons_succ]
      refine wpAnyH_take (i := 2) (v := .slice (some ⟨ba, oa, none⟩) la ca) rfl (by kernel_rfl) (by kernel_rfl) (by kernel_rfl) (fun _ _ _ h => h) (.inl ⟨by rfl, ?_⟩) (by assumption) ?_
      · intro W hW; go_simp
      try simp only [List.getElem_toArray, List.getElem_cons_zero, List.getElem_cons_succ, Act.put, List.setIfInBounds_toArray, List.set_cons_zero, List.set_cons_succ]
      refine wpAnyH_take (i := 3) (v := .int .i64 k) rfl (by kernel_rfl) (by kernel_rfl) (by kernel_rfl) (fun _ _ _ h => h) (.inl ⟨by rfl, ?_⟩) (by assumption) ?_
      · intro W hW; go_simp
      try simp only [List.getElem_toArray, List.getElem_cons_zero, List.getElem_cons_succ, Act.put, List.setIfInBounds_toArray, List.set_cons_zero, List.set_cons_succ]
      refine wpAnyH_take (i := 4) (v := .pointer (some ⟨ba, oa + k, none⟩)) rfl (by kernel_rfl) (by kernel_rfl) (by kernel_rfl) (fun _ _ _ h => h) (.inl ⟨by rfl, ?_⟩) (by assumption) ?_
      · intro W hW; go_simp
      try simp only [List.getElem_toArray, List.getElem_cons_zero, List.getElem_cons_succ, Act.put, List.setIfInBounds_toArray, List.set_cons_zero, List.set_cons_succ]
      refine wpAnyH_take (i := 5) (v := .int .u8 x) rfl (by kernel_rfl) (by kernel_rfl) (by kernel_rfl) (fun _ _ _ h => h) (.inl ⟨by rfl, ?_⟩) (by assumption) ?_
      · intro W hW; have k9 := (hW.cell (p := ⟨ba, oa + k, none⟩) (World.block_lt_of_cell? w _ CA.out)).trans CA.out; go_simp
      try simp only [List.getElem_toArray, List.getElem_cons_zero, List.getElem_cons_succ, Act.put, List.setIfInBounds_toArray, List.set_cons_zero, List.set_cons_succ]
      refine wpAnyH_take (i := 6) (v := .slice (some ⟨bb, ob, none⟩) lb cb) rfl (by kernel_rfl) (by kernel_rfl) (by kernel_rfl) (fun _ _ _ h => h) (.inl ⟨by rfl, ?_⟩) (by assumption) ?_
      · intro W hW; go_simp
      try simp only [List.getElem_toArray, List.getElem_cons_zero, List.getElem_cons_succ, Act.put, List.setIfInBounds_toArray, List.set_cons_zero, List.set_cons_succ]
      refine wpAnyH_take (i := 7) (v := .int .i64 k) rfl (by kernel_rfl) (by kernel_rfl) (by kernel_rfl) (fun _ _ _ h => h) (.inl ⟨by rfl, ?_⟩) (by assumption) ?_
      · intro W hW; go_simp
      try simp only [List.getElem_toArray, List.getElem_cons_zero, List.getElem_cons_succ, Act.put, List.setIfInBounds_toArray, List.set_cons_zero, List.set_cons_succ]
      refine wpAnyH_take (i := 8) (v := .pointer (some ⟨bb, ob + k, none⟩)) rfl (by kernel_rfl) (by kernel_rfl) (by kernel_rfl) (fun _ _ _ h => h) (.inl ⟨by rfl, ?_⟩) (by assumption) ?_
      · intro W hW; go_simp
      try simp only [List.getElem_toArray, List.getElem_cons_zero, List.getElem_cons_succ, Act.put, List.setIfInBounds_toArray, List.set_cons_zero, List.set_cons_succ]
      refine wpAnyH_take (i := 9) (v := .int .u8 y) rfl (by kernel_rfl) (by kernel_rfl) (by kernel_rfl) (fun _ _ _ h => h) (.inl ⟨by rfl, ?_⟩) (by assumption) ?_
      · intro W hW; have k9 := (hW.cell (p := ⟨bb, ob + k, none⟩) (World.block_lt_of_cell? w _ CB.out)).trans CB.out; go_simp
      try simp only [List.getElem_toArray, List.getElem_cons_zero, List.getElem_cons_succ, Act.put, List.setIfInBounds_toArray, List.set_cons_zero, List.set_cons_succ]
      refine wpAnyH_take (i := 10) (v := .int .u8 (x ^^^ y : Nat)) rfl (by kernel_rfl) (by kernel_rfl) (by kernel_rfl) (fun _ _ _ h => h) (.inl ⟨by rfl, ?_⟩) (by assumption) ?_
      · intro W hW; go_simp
      try simp only [List.getElem_toArray, List.getElem_cons_zero, List.getElem_cons_succ, Act.put, List.setIfInBounds_toArray, List.set_cons_zero, List.set_cons_succ]
      refine wpAnyH_take (i := 11) (v := .slice (some ⟨bc, oc, none⟩) lc cc) rfl (by kernel_rfl) (by kernel_rfl) (by kernel_rfl) (fun _ _ _ h => h) (.inl ⟨by rfl, ?_⟩) (by assumption) ?_
      · intro W hW; go_simp
      try simp only [List.getElem_toArray, List.getElem_cons_zero, List.getElem_cons_succ, Act.put, List.setIfInBounds_toArray, List.set_cons_zero, List.set_cons_succ]
      refine wpAnyH_take (i := 12) (v := .int .i64 k) rfl (by kernel_rfl) (by kernel_rfl) (by kernel_rfl) (fun _ _ _ h => h) (.inl ⟨by rfl, ?_⟩) (by assumption) ?_
      · intro W hW; go_simp
      try simp only [List.getElem_toArray, List.getElem_cons_zero, List.getElem_cons_succ, Act.put, List.setIfInBounds_toArray, List.set_cons_zero, List.set_cons_succ]
      refine wpAnyH_take (i := 13) (v := .pointer (some ⟨bc, oc + k, none⟩)) rfl (by kernel_rfl) (by kernel_rfl) (by kernel_rfl) (fun _ _ _ h => h) (.inl ⟨by rfl, ?_⟩) (by assumption) ?_
      · intro W hW; go_simp
      try simp only [List.getElem_toArray, List.getElem_cons_zero, List.getElem_cons_succ, Act.put, List.setIfInBounds_toArray, List.set_cons_zero, List.set_cons_succ]
      refine wpAnyH_take (i := 14) (v := .int .u8 z) rfl (by kernel_rfl) (by kernel_rfl) (by kernel_rfl) (fun _ _ _ h => h) (.inl ⟨by rfl, ?_⟩) (by assumption) ?_
      · intro W hW; have k9 := (hW.cell (p := ⟨bc, oc + k, none⟩) (World.block_lt_of_cell? w _ CC.out)).trans CC.out; go_simp
      try simp only [List.getElem_toArray, List.getElem_cons_zero, List.getElem_cons_succ, Act.put, List.setIfInBounds_toArray, List.set_cons_zero, List.set_cons_succ]
      refine wpAnyH_take (i := 15) (v := .int .u8 (x ^^^ y ^^^ z : Nat)) rfl (by kernel_rfl) (by kernel_rfl) (by kernel_rfl) (fun _ _ _ h => h) (.inl ⟨by rfl, ?_⟩) (by assumption) ?_
      · intro W hW; go_simp
      try simp only [List.getElem_toArray, List.getElem_cons_zero, List.getElem_cons_succ, Act.put, List.setIfInBounds_toArray, List.set_cons_zero, List.set_cons_succ]
      refine wpAnyH_take (i := 16) (v := .pointer (some ⟨w.heap.size, k, none⟩)) rfl (by kernel_rfl) (by kernel_rfl) (by kernel_rfl) (fun _ _ _ h => h) (.inl ⟨by rfl, ?_⟩) (by assumption) ?_
      · intro W hW; go_simp
      try simp only [List.getElem_toArray, List.getElem_cons_zero, List.getElem_cons_succ, Act.put, List.setIfInBounds_toArray, List.set_cons_zero, List.set_cons_succ]
      refine wpAnyH_ready (rs := [17]) (by decide +kernel) (by simp) (AllReadyH.cons rfl (fun K1 hK => ?_) AllReadyH.nil)
      go_simp
      have HO2 := Lib.hid (own_put (k := k) HO.out ((x ^^^ y ^^^ z : Nat) : Int)).1
      have HB2 := Lib.hid ((HB.out.setCell (p := ⟨w.heap.size, k, none⟩) (Nat.le_refl _) (.int .u8 ((x ^^^ y ^^^ z : Nat) : Int))).drew)
      refine hK.out _ _ HB2.out (fun _ => ?_)
      clear hK hH
      try simp only [List.getElem_toArray, List.getElem_cons_zero, List.getElem_cons_succ, Act.put, List.setIfInBounds_toArray, List.set_cons_zero, List.set_cons_succ]
      refine wpAnyH_done (by decide +kernel) ?_ _
      go_wp2_with fail
      go_roundw
      case rel => exact ⟨k + 1, _, hlt, by go_num, AN.out, HO2.out, HB2.out⟩
      case measure => simp [intOf]; omega
    case neg =>
      obtain rfl : k = n := by omega
      have hsum := Cr.cs_three (a := xs.take k) (b := ys.take k) (c := zs.take k) (d := ds) (by rw [List.length_take, HAD.out.1, LA.out]; omega) (by rw [List.length_take, HAD.out.1, LB.out]; omega) (by rw [List.length_take, HAD.out.1, LC.out]; omega) (fun i hi => by rw [HAD.out.1] at hi; exact bt_xor3 HAD.out.2.2 i hi)
      have OK1 := Lib.hid (fun U (b : Below wr.heap.size wr U) => show (Pt.mk A k ca (xs.take k)).ok U from ⟨((HAA.out.below HB.out).below b).lead na, fun h => ⟨by show k = 0; have := (a0 h).1; omega, (a0 h).2⟩⟩)
      have OK2 := Lib.hid (fun U (b : Below wr.heap.size wr U) => show (Pt.mk B k cb (ys.take k)).ok U from ⟨((HBB.out.below HB.out).below b).lead nb, fun h => ⟨by show k = 0; have := (b0 h).1; omega, (b0 h).2⟩⟩)
      have OK3 := Lib.hid (fun U (b : Below wr.heap.size wr U) => show (Pt.mk C k cc (zs.take k)).ok U from ⟨((HCC.out.below HB.out).below b).lead nc, fun h => ⟨by show k = 0; have := (c0 h).1; omega, (c0 h).2⟩⟩)
      have RD : RdB wr (some ⟨w.heap.size, 0, none⟩) k ds := ⟨HAD.out.1, fun hn0 => ⟨_, _, rfl, fun j hj => by
        rw [Nat.zero_add, HO.out.cellAt j (by omega)]
        simp [List.getD, show j < ds.length by rw [HAD.out.1]; exact hj]⟩⟩
      have OK4 := Lib.hid (fun U (b : Below wr.heap.size wr U) => show (Pt.mk (some ⟨w.heap.size, 0, none⟩) k k ds).ok U from ⟨RD.below b, fun h => by cases h⟩)
      have S1 := Lib.hid (fun U G (h : PtsAt U (some ⟨G, 0, none⟩) 1 [(Pt.mk A k ca (xs.take k))]) => sum_pt KK.out h (fun x hx => YA.out x (List.mem_of_mem_take hx)) (by show k ≤ 1000000; omega))
      have S2 := Lib.hid (fun U G (h : PtsAt U (some ⟨G, 0, none⟩) 1 [(Pt.mk B k cb (ys.take k))]) => sum_pt KK.out h (fun x hx => YB.out x (List.mem_of_mem_take hx)) (by show k ≤ 1000000; omega))
      have S3 := Lib.hid (fun U G (h : PtsAt U (some ⟨G, 0, none⟩) 1 [(Pt.mk C k cc (zs.take k))]) => sum_pt KK.out h (fun x hx => YC.out x (List.mem_of_mem_take hx)) (by show k ≤ 1000000; omega))
      have S4 := Lib.hid (fun U G (h : PtsAt U (some ⟨G, 0, none⟩) 1 [(Pt.mk (some ⟨w.heap.size, 0, none⟩) k k ds)]) => sum_pt KK.out h HAD.out.2.1 (by show k ≤ 1000000; omega))
      dsimp only at S1 S2 S3 S4
      have l1 := Cr.cs_lt (xs.take k)
      have l2 := Cr.cs_lt (ys.take k)
      have l3 := Cr.cs_lt (zs.take k)
      obtain ⟨s1, e1⟩ : ∃ s, Cr.cs (xs.take k) = s := ⟨_, rfl⟩
      obtain ⟨s2, e2⟩ : ∃ s, Cr.cs (ys.take k) = s := ⟨_, rfl⟩
      obtain ⟨s3, e3⟩ : ∃ s, Cr.cs (zs.take k) = s := ⟨_, rfl⟩
      obtain ⟨s4, e4⟩ : ∃ s, Cr.cs ds = s := ⟨_, rfl⟩
      rw [e1] at S1 hsum l1
      rw [e2] at S2 hsum l2
      rw [e3] at S3 hsum l3
      rw [e4] at S4 hsum
      have X1 := xor_u32 s1 s2 l1 l2
      have X2 := xor_u32 (s1 ^^^ s2) s3 (Nat.xor_lt_two_pow (n := 32) l1 l2) l3
      rw [hsum] at X2
      have qa : k ≤ ca := by omega
      have qb : k ≤ cb := by omega
      have qc : k ≤ cc := by omega
      clear e1 e2 e3 e4 RD hsum l1 l2 l3
      go_wp2_with fail
      refine wp_region_held_drew (S := fun U => Below wr.heap.size wr U) (by kernel_rfl) (Below.refl _ wr).drew (fun hH => ?_)
      generalize wr.drew = W0 at hH ⊢
      refine wpAnyH_take (i := 0) (v := .slice A la ca) rfl (by kernel_rfl) (by kernel_rfl) (by kernel_rfl) (fun _ _ _ h => h) (.inl ⟨by rfl, ?_⟩) (by assumption) ?_
      · intro W hW; go_simp
      try simp only [List.getElem_toArray, List.getElem_cons_zero, Act.put, List.setIfInBounds_toArray, List.set_cons_zero, List.set_cons_succ]
      refine wpAnyH_take (i := 1) (v := .int .i64 k) rfl (by kernel_rfl) (by kernel_rfl) (by kernel_rfl) (fun _ _ _ h => h) (.inl ⟨by rfl, ?_⟩) (by assumption) ?_
      · intro W hW; go_simp
      try simp only [List.getElem_toArray, List.getElem_cons_zero, List.getElem_cons_succ, Act.put, List.setIfInBounds_toArray, List.set_cons_zero, List.set_cons_succ]
      refine wpAnyH_take (i := 2) (v := .slice A k ca) rfl (by kernel_rfl) (by kernel_rfl) (by kernel_rfl) (fun _ _ _ h => h) (.inl ⟨by rfl, ?_⟩) (by assumption) ?_
      · intro W hW; go_simp
      try simp only [List.getElem_toArray, List.getElem_cons_zero, List.getElem_cons_succ, Act.put, List.setIfInBounds_toArray, List.set_cons_zero, List.set_cons_succ]
      refine wpAnyH_take (i := 5) (v := .slice B lb cb) rfl (by kernel_rfl) (by kernel_rfl) (by kernel_rfl) (fun _ _ _ h => h) (.inl ⟨by rfl, ?_⟩) (by assumption) ?_
      · intro W hW; go_simp
      try simp only [List.getElem_toArray, List.getElem_cons_zero, List.getElem_cons_succ, Act.put, List.setIfInBounds_toArray, List.set_cons_zero, List.set_cons_succ]
      refine wpAnyH_take (i := 6) (v := .int .i64 k) rfl (by kernel_rfl) (by kernel_rfl) (by kernel_rfl) (fun _ _ _ h => h) (.inl ⟨by rfl, ?_⟩) (by assumption) ?_
      · intro W hW; go_simp
      try simp only [List.getElem_toArray, List.getElem_cons_zero, List.getElem_cons_succ, Act.put, List.setIfInBounds_toArray, List.set_cons_zero, List.set_cons_succ]
      refine wpAnyH_take (i := 7) (v := .slice B k cb) rfl (by kernel_rfl) (by kernel_rfl) (by kernel_rfl) (fun _ _ _ h => h) (.inl ⟨by rfl, ?_⟩) (by assumption) ?_
      · intro W hW; go_simp
      try simp only [List.getElem_toArray, List.getElem_cons_zero, List.getElem_cons_succ, Act.put, List.setIfInBounds_toArray, List.set_cons_zero, List.set_cons_succ]
      refine wpAnyH_take (i := 11) (v := .slice C lc cc) rfl (by kernel_rfl) (by kernel_rfl) (by kernel_rfl) (fun _ _ _ h => h) (.inl ⟨by rfl, ?_⟩) (by assumption) ?_
      · intro W hW; go_simp
      try simp only [List.getElem_toArray, List.getElem_cons_zero, List.getElem_cons_succ, Act.put, List.setIfInBounds_toArray, List.set_cons_zero, List.set_cons_succ]
      refine wpAnyH_take (i := 12) (v := .int .i64 k) rfl (by kernel_rfl) (by kernel_rfl) (by kernel_rfl) (fun _ _ _ h => h) (.inl ⟨by rfl, ?_⟩) (by assumption) ?_
      · intro W hW; go_simp
      try simp only [List.getElem_toArray, List.getElem_cons_zero, List.getElem_cons_succ, Act.put, List.setIfInBounds_toArray, List.set_cons_zero, List.set_cons_succ]
      refine wpAnyH_take (i := 13) (v := .slice C k cc) rfl (by kernel_rfl) (by kernel_rfl) (by kernel_rfl) (fun _ _ _ h => h) (.inl ⟨by rfl, ?_⟩) (by assumption) ?_
      · intro W hW; go_simp
      try simp only [List.getElem_toArray, List.getElem_cons_zero, List.getElem_cons_succ, Act.put, List.setIfInBounds_toArray, List.set_cons_zero, List.set_cons_succ]
      refine wpAnyH_take (i := 17) (v := .slice (some ⟨w.heap.size, 0, none⟩) k k) rfl (by kernel_rfl) (by kernel_rfl) (by kernel_rfl) (fun _ _ _ h => h) (.inl ⟨by rfl, ?_⟩) (by assumption) ?_
      · intro W hW; go_simp
      try simp only [List.getElem_toArray, List.getElem_cons_zero, List.getElem_cons_succ, Act.put, List.setIfInBounds_toArray, List.set_cons_zero, List.set_cons_succ]
      refine wpAnyH_abs (fun O q hO hq => ?_)
      have HO := Lib.hid hO
      have HQ := Lib.hid hq
      have HQP := Lib.hid (show ∀ (t : Option Nat) (v : Value) (c : _) (a : Act) (w : World), q (.panic c) (a.put t v) w → q (.panic c) a w by
        subst hq
        intro t v c a w h
        cases t <;> exact h)
      clear hO hq
      have T4 : Hid (∀ (U : World) (G1 G2 G3 G4 : Nat), Below wr.heap.size wr U → wpAnyH Try.prog .any O q (fun U => Below wr.heap.size wr U) 5 #[true, true, true, true, true, true, true, true, true, true, true, true, true, true, true, true, true, true, true, true, false, false, false, false, false] { tmps := #[.slice A la ca, .slice B lb cb, .slice C lc cc, undef, undef, undef, .bool false, .int .i64 (k : Nat), .slice (some ⟨w.heap.size, 0, none⟩) k k, u9, .slice A la ca, .int .i64 (la : Nat), .slice B lb cb, .int .i64 (lb : Nat), .slice C lc cc, .int .i64 (lc : Nat), .int .i64 (k : Nat), .int .i64 (k : Nat), .bool (decide (20000 < (k : Int))), undef, .int .i64 (k : Nat), .slice (some ⟨w.heap.size, 0, none⟩) k k, .slice (some ⟨w.heap.size, 0, none⟩) k k, .int .i64 (k : Nat), .int .i64 (k : Nat), .bool false, u26, u27, u28, u29, u30, u31, u32, u33, u34, u35, u36, u37, u38, u39, u40, u41, u42, u43, u44, .slice A la ca, .int .i64 (k : Nat), .slice A k ca, .slice (some ⟨G1, 0, none⟩) 1 1, .int .u32 (s1 : Nat), .slice B lb cb, .int .i64 (k : Nat), .slice B k cb, .slice (some ⟨G2, 0, none⟩) 1 1, .int .u32 (s2 : Nat), .int .u32 (s1 ^^^ s2 : Nat), .slice C lc cc, .int .i64 (k : Nat), .slice C k cc, .slice (some ⟨G3, 0, none⟩) 1 1, .int .u32 (s3 : Nat), .int .u32 (s4 : Nat), .slice (some ⟨w.heap.size, 0, none⟩) k k, .slice (some ⟨G4, 0, none⟩) 1 1, .int .u32 (s4 : Nat), undef, undef, undef, undef], defers := [] } U) := Lib.hid (by
        have eO := HO.out
        subst eO
        have eq := HQ.out
        subst eq
        intro U G1 G2 G3 G4 hH
        refine wpAnyH_take (i := 20) (v := .bool true) rfl (by kernel_rfl) (by kernel_rfl) (by kernel_rfl) (fun _ _ _ h => h) (.inl ⟨by rfl, ?_⟩) (by assumption) ?_
        · intro W hW; go_simp
        try simp only [List.getElem_toArray, List.getElem_cons_zero, List.getElem_cons_succ, Act.put, List.setIfInBounds_toArray, List.set_cons_zero, List.set_cons_succ]
        refine wpAnyH_take (i := 21) (v := .bool true) rfl (by kernel_rfl) (by kernel_rfl) (by kernel_rfl) (fun _ _ _ h => h) (.inl ⟨by rfl, ?_⟩) (by assumption) ?_
        · intro W hW; go_simp
        try simp only [List.getElem_toArray, List.getElem_cons_zero, List.getElem_cons_succ, Act.put, List.setIfInBounds_toArray, List.set_cons_zero, List.set_cons_succ]
        refine wpAnyH_ready (rs := [22]) (by decide +kernel) (by simp) (AllReadyH.cons rfl (fun K1 hK => ?_) AllReadyH.nil)
        go_simp
        refine (KN.out _).mono ?_; rintro e0 W9 ⟨rfl, q9⟩
        have hH := hH.trans (q9.mono hH.size)
        refine hK.out _ _ hH (fun _ => ?_)
        clear hK q9
        try simp only [List.setIfInBounds_toArray, List.set_cons_zero, List.set_cons_succ]
        refine wpAnyH_take (i := 23) (v := .bool true) rfl (by kernel_rfl) (by kernel_rfl) (by kernel_rfl) (fun _ _ _ h => h) (.inl ⟨by rfl, ?_⟩) (by assumption) ?_
        · intro W hW; go_simp
        try simp only [List.getElem_toArray, List.getElem_cons_zero, List.getElem_cons_succ, Act.put, List.setIfInBounds_toArray, List.set_cons_zero, List.set_cons_succ]
        refine wpAnyH_take (i := 24) (v := .bool true) rfl (by kernel_rfl) (by kernel_rfl) (by kernel_rfl) (fun _ _ _ h => h) (.inl ⟨by rfl, ?_⟩) (by assumption) ?_
        · intro W hW; go_simp
        try simp only [List.getElem_toArray, List.getElem_cons_zero, List.getElem_cons_succ, Act.put, List.setIfInBounds_toArray, List.set_cons_zero, List.set_cons_succ]
        refine wpAnyH_done (by decide +kernel) ?_ _
        have BF := Lib.hid (HB.out.trans (hH.mono HB.out.size))
        clear hH
        go_wp2_with fail
        go_ret
        exact ⟨rfl, BF.out⟩)
      have T34 : Hid (∀ (U : World) (G1 G2 G3 G4 : Nat), Below wr.heap.size wr U → PtsAt U (some ⟨G4, 0, none⟩) 1 [(Pt.mk (some ⟨w.heap.size, 0, none⟩) k k ds)] → wpAnyH Try.prog .any O q (fun U => Below wr.heap.size wr U) 6 #[true, true, true, true, true, true, true, true, true, true, true, true, true, true, true, true, true, true, true, false, false, false, false, false, false] { tmps := #[.slice A la ca, .slice B lb cb, .slice C lc cc, undef, undef, undef, .bool false, .int .i64 (k : Nat), .slice (some ⟨w.heap.size, 0, none⟩) k k, u9, .slice A la ca, .int .i64 (la : Nat), .slice B lb cb, .int .i64 (lb : Nat), .slice C lc cc, .int .i64 (lc : Nat), .int .i64 (k : Nat), .int .i64 (k : Nat), .bool (decide (20000 < (k : Int))), undef, .int .i64 (k : Nat), .slice (some ⟨w.heap.size, 0, none⟩) k k, .slice (some ⟨w.heap.size, 0, none⟩) k k, .int .i64 (k : Nat), .int .i64 (k : Nat), .bool false, u26, u27, u28, u29, u30, u31, u32, u33, u34, u35, u36, u37, u38, u39, u40, u41, u42, u43, u44, .slice A la ca, .int .i64 (k : Nat), .slice A k ca, .slice (some ⟨G1, 0, none⟩) 1 1, .int .u32 (s1 : Nat), .slice B lb cb, .int .i64 (k : Nat), .slice B k cb, .slice (some ⟨G2, 0, none⟩) 1 1, .int .u32 (s2 : Nat), .int .u32 (s1 ^^^ s2 : Nat), .slice C lc cc, .int .i64 (k : Nat), .slice C k cc, .slice (some ⟨G3, 0, none⟩) 1 1, .int .u32 (s3 : Nat), .int .u32 (s4 : Nat), .slice (some ⟨w.heap.size, 0, none⟩) k k, .slice (some ⟨G4, 0, none⟩) 1 1, undef, undef, undef, undef, undef], defers := [] } U) := Lib.hid (by
        intro U G1 G2 G3 G4 hH PA4
        refine wpAnyH_ready (rs := [19]) (by rw [HO.out]; decide +kernel) (by simp) (AllReadyH.cons (by rw [HO.out]; rfl) (fun K1 hK => ?_) AllReadyH.nil)
        · go_simp
          refine (S4.out U G4 PA4).mono ?_; rintro e0 W1 ⟨rfl, bq⟩
          have hH2 := hH.trans (bq.mono hH.size)
          refine hK.out _ _ hH2 (fun _ => ?_)
          clear hK
          try simp only [List.setIfInBounds_toArray, List.set_cons_zero, List.set_cons_succ]
          exact wpAnyH_eq (by kernel_rfl) (by kernel_rfl) (T4.out _ G1 G2 G3 G4 hH2 ))
      have T3 : Hid (∀ (U : World) (G1 G2 G3 G4 : Nat), Below wr.heap.size wr U → wpAnyH Try.prog .any O q (fun U => Below wr.heap.size wr U) 7 #[true, true, true, true, true, true, true, true, true, true, true, true, true, true, true, true, true, true, false, false, false, false, false, false, false] { tmps := #[.slice A la ca, .slice B lb cb, .slice C lc cc, undef, undef, undef, .bool false, .int .i64 (k : Nat), .slice (some ⟨w.heap.size, 0, none⟩) k k, u9, .slice A la ca, .int .i64 (la : Nat), .slice B lb cb, .int .i64 (lb : Nat), .slice C lc cc, .int .i64 (lc : Nat), .int .i64 (k : Nat), .int .i64 (k : Nat), .bool (decide (20000 < (k : Int))), undef, .int .i64 (k : Nat), .slice (some ⟨w.heap.size, 0, none⟩) k k, .slice (some ⟨w.heap.size, 0, none⟩) k k, .int .i64 (k : Nat), .int .i64 (k : Nat), .bool false, u26, u27, u28, u29, u30, u31, u32, u33, u34, u35, u36, u37, u38, u39, u40, u41, u42, u43, u44, .slice A la ca, .int .i64 (k : Nat), .slice A k ca, .slice (some ⟨G1, 0, none⟩) 1 1, .int .u32 (s1 : Nat), .slice B lb cb, .int .i64 (k : Nat), .slice B k cb, .slice (some ⟨G2, 0, none⟩) 1 1, .int .u32 (s2 : Nat), .int .u32 (s1 ^^^ s2 : Nat), .slice C lc cc, .int .i64 (k : Nat), .slice C k cc, .slice (some ⟨G3, 0, none⟩) 1 1, .int .u32 (s3 : Nat), .int .u32 (s4 : Nat), .slice (some ⟨w.heap.size, 0, none⟩) k k, undef, undef, undef, undef, undef, undef], defers := [] } U) := Lib.hid (by
        intro U G1 G2 G3 G4 hH
        refine wpAnyH_ready (rs := [18]) (by rw [HO.out]; decide +kernel) (by simp) (AllReadyH.cons (by rw [HO.out]; rfl) (fun K1 hK => ?_) AllReadyH.nil)
        · go_simp
          have PA4 := pts_one (OK4.out U hH)
          unfold Pt.v at PA4
          dsimp only at PA4
          have bq := (Below.refl U.heap.size U).alloc (Nat.le_refl _) (.cells #[.slice (some ⟨w.heap.size, 0, none⟩) k k] 23)
          have hH2 := hH.alloc hH.size (.cells #[.slice (some ⟨w.heap.size, 0, none⟩) k k] 23)
          refine hK.out _ _ hH2 (fun _ => ?_)
          clear hK
          try simp only [List.setIfInBounds_toArray, List.set_cons_zero, List.set_cons_succ]
          exact wpAnyH_eq (by kernel_rfl) (by kernel_rfl) (T34.out _ G1 G2 G3 U.heap.size hH2 PA4))
      have T234 : Hid (∀ (U : World) (G1 G2 G3 G4 : Nat), Below wr.heap.size wr U → PtsAt U (some ⟨G3, 0, none⟩) 1 [(Pt.mk C k cc (zs.take k))] → PtsAt U (some ⟨G4, 0, none⟩) 1 [(Pt.mk (some ⟨w.heap.size, 0, none⟩) k k ds)] → wpAnyH Try.prog .any O q (fun U => Below wr.heap.size wr U) 8 #[true, true, true, true, true, true, true, true, true, true, true, true, true, true, true, false, false, true, true, false, false, false, false, false, false] { tmps := #[.slice A la ca, .slice B lb cb, .slice C lc cc, undef, undef, undef, .bool false, .int .i64 (k : Nat), .slice (some ⟨w.heap.size, 0, none⟩) k k, u9, .slice A la ca, .int .i64 (la : Nat), .slice B lb cb, .int .i64 (lb : Nat), .slice C lc cc, .int .i64 (lc : Nat), .int .i64 (k : Nat), .int .i64 (k : Nat), .bool (decide (20000 < (k : Int))), undef, .int .i64 (k : Nat), .slice (some ⟨w.heap.size, 0, none⟩) k k, .slice (some ⟨w.heap.size, 0, none⟩) k k, .int .i64 (k : Nat), .int .i64 (k : Nat), .bool false, u26, u27, u28, u29, u30, u31, u32, u33, u34, u35, u36, u37, u38, u39, u40, u41, u42, u43, u44, .slice A la ca, .int .i64 (k : Nat), .slice A k ca, .slice (some ⟨G1, 0, none⟩) 1 1, .int .u32 (s1 : Nat), .slice B lb cb, .int .i64 (k : Nat), .slice B k cb, .slice (some ⟨G2, 0, none⟩) 1 1, .int .u32 (s2 : Nat), .int .u32 (s1 ^^^ s2 : Nat), .slice C lc cc, .int .i64 (k : Nat), .slice C k cc, .slice (some ⟨G3, 0, none⟩) 1 1, undef, undef, .slice (some ⟨w.heap.size, 0, none⟩) k k, .slice (some ⟨G4, 0, none⟩) 1 1, undef, undef, undef, undef, undef], defers := [] } U) := Lib.hid (by
        intro U G1 G2 G3 G4 hH PA3 PA4
        refine wpAnyH_ready (rs := [15]) (by rw [HO.out]; decide +kernel) (by simp) (AllReadyH.cons (by rw [HO.out]; rfl) (fun K1 hK => ?_) AllReadyH.nil)
        · go_simp
          refine (S3.out U G3 PA3).mono ?_; rintro e0 W1 ⟨rfl, bq⟩
          have hH2 := hH.trans (bq.mono hH.size)
          refine hK.out _ _ hH2 (fun _ => ?_)
          clear hK
          try simp only [List.setIfInBounds_toArray, List.set_cons_zero, List.set_cons_succ]
          refine wpAnyH_take (i := 16) (v := .int .u32 (s4 : Nat)) (by rw [HO.out]; rfl) (by rw [HO.out]; kernel_rfl) (by rw [HO.out]; kernel_rfl) (by rw [HO.out]; kernel_rfl) (HQP.out _ _) (.inl ⟨by rfl, ?_⟩) (by assumption) ?_
          · intro W hW; go_simp
          try simp only [List.getElem_toArray, List.getElem_cons_zero, List.getElem_cons_succ, Act.put, List.setIfInBounds_toArray, List.set_cons_zero, List.set_cons_succ]
          exact wpAnyH_eq (by kernel_rfl) (by kernel_rfl) (T34.out _ G1 G2 G3 G4 hH2 (PA4.below bq)))
      have T23 : Hid (∀ (U : World) (G1 G2 G3 G4 : Nat), Below wr.heap.size wr U → PtsAt U (some ⟨G3, 0, none⟩) 1 [(Pt.mk C k cc (zs.take k))] → wpAnyH Try.prog .any O q (fun U => Below wr.heap.size wr U) 9 #[true, true, true, true, true, true, true, true, true, true, true, true, true, true, true, false, false, true, false, false, false, false, false, false, false] { tmps := #[.slice A la ca, .slice B lb cb, .slice C lc cc, undef, undef, undef, .bool false, .int .i64 (k : Nat), .slice (some ⟨w.heap.size, 0, none⟩) k k, u9, .slice A la ca, .int .i64 (la : Nat), .slice B lb cb, .int .i64 (lb : Nat), .slice C lc cc, .int .i64 (lc : Nat), .int .i64 (k : Nat), .int .i64 (k : Nat), .bool (decide (20000 < (k : Int))), undef, .int .i64 (k : Nat), .slice (some ⟨w.heap.size, 0, none⟩) k k, .slice (some ⟨w.heap.size, 0, none⟩) k k, .int .i64 (k : Nat), .int .i64 (k : Nat), .bool false, u26, u27, u28, u29, u30, u31, u32, u33, u34, u35, u36, u37, u38, u39, u40, u41, u42, u43, u44, .slice A la ca, .int .i64 (k : Nat), .slice A k ca, .slice (some ⟨G1, 0, none⟩) 1 1, .int .u32 (s1 : Nat), .slice B lb cb, .int .i64 (k : Nat), .slice B k cb, .slice (some ⟨G2, 0, none⟩) 1 1, .int .u32 (s2 : Nat), .int .u32 (s1 ^^^ s2 : Nat), .slice C lc cc, .int .i64 (k : Nat), .slice C k cc, .slice (some ⟨G3, 0, none⟩) 1 1, undef, undef, .slice (some ⟨w.heap.size, 0, none⟩) k k, undef, undef, undef, undef, undef, undef], defers := [] } U) := Lib.hid (by
        intro U G1 G2 G3 G4 hH PA3
        refine wpAnyH_ready (rs := [15, 18]) (by rw [HO.out]; decide +kernel) (by simp) (AllReadyH.cons (by rw [HO.out]; rfl) (fun K1 hK => ?_) (AllReadyH.cons (by rw [HO.out]; rfl) (fun K1 hK => ?_) AllReadyH.nil))
        · go_simp
          refine (S3.out U G3 PA3).mono ?_; rintro e0 W1 ⟨rfl, bq⟩
          have hH2 := hH.trans (bq.mono hH.size)
          refine hK.out _ _ hH2 (fun _ => ?_)
          clear hK
          try simp only [List.setIfInBounds_toArray, List.set_cons_zero, List.set_cons_succ]
          refine wpAnyH_take (i := 16) (v := .int .u32 (s4 : Nat)) (by rw [HO.out]; rfl) (by rw [HO.out]; kernel_rfl) (by rw [HO.out]; kernel_rfl) (by rw [HO.out]; kernel_rfl) (HQP.out _ _) (.inl ⟨by rfl, ?_⟩) (by assumption) ?_
          · intro W hW; go_simp
          try simp only [List.getElem_toArray, List.getElem_cons_zero, List.getElem_cons_succ, Act.put, List.setIfInBounds_toArray, List.set_cons_zero, List.set_cons_succ]
          exact wpAnyH_eq (by kernel_rfl) (by kernel_rfl) (T3.out _ G1 G2 G3 G4 hH2 )
        · go_simp
          have PA4 := pts_one (OK4.out U hH)
          unfold Pt.v at PA4
          dsimp only at PA4
          have bq := (Below.refl U.heap.size U).alloc (Nat.le_refl _) (.cells #[.slice (some ⟨w.heap.size, 0, none⟩) k k] 23)
          have hH2 := hH.alloc hH.size (.cells #[.slice (some ⟨w.heap.size, 0, none⟩) k k] 23)
          refine hK.out _ _ hH2 (fun _ => ?_)
          clear hK
          try simp only [List.setIfInBounds_toArray, List.set_cons_zero, List.set_cons_succ]
          exact wpAnyH_eq (by kernel_rfl) (by kernel_rfl) (T234.out _ G1 G2 G3 U.heap.size hH2 (PA3.below bq) PA4))
      have T24 : Hid (∀ (U : World) (G1 G2 G3 G4 : Nat), Below wr.heap.size wr U → PtsAt U (some ⟨G4, 0, none⟩) 1 [(Pt.mk (some ⟨w.heap.size, 0, none⟩) k k ds)] → wpAnyH Try.prog .any O q (fun U => Below wr.heap.size wr U) 9 #[true, true, true, true, true, true, true, true, true, true, true, true, true, true, false, false, false, true, true, false, false, false, false, false, false] { tmps := #[.slice A la ca, .slice B lb cb, .slice C lc cc, undef, undef, undef, .bool false, .int .i64 (k : Nat), .slice (some ⟨w.heap.size, 0, none⟩) k k, u9, .slice A la ca, .int .i64 (la : Nat), .slice B lb cb, .int .i64 (lb : Nat), .slice C lc cc, .int .i64 (lc : Nat), .int .i64 (k : Nat), .int .i64 (k : Nat), .bool (decide (20000 < (k : Int))), undef, .int .i64 (k : Nat), .slice (some ⟨w.heap.size, 0, none⟩) k k, .slice (some ⟨w.heap.size, 0, none⟩) k k, .int .i64 (k : Nat), .int .i64 (k : Nat), .bool false, u26, u27, u28, u29, u30, u31, u32, u33, u34, u35, u36, u37, u38, u39, u40, u41, u42, u43, u44, .slice A la ca, .int .i64 (k : Nat), .slice A k ca, .slice (some ⟨G1, 0, none⟩) 1 1, .int .u32 (s1 : Nat), .slice B lb cb, .int .i64 (k : Nat), .slice B k cb, .slice (some ⟨G2, 0, none⟩) 1 1, .int .u32 (s2 : Nat), .int .u32 (s1 ^^^ s2 : Nat), .slice C lc cc, .int .i64 (k : Nat), .slice C k cc, undef, undef, undef, .slice (some ⟨w.heap.size, 0, none⟩) k k, .slice (some ⟨G4, 0, none⟩) 1 1, undef, undef, undef, undef, undef], defers := [] } U) := Lib.hid (by
        intro U G1 G2 G3 G4 hH PA4
        refine wpAnyH_ready (rs := [14]) (by rw [HO.out]; decide +kernel) (by simp) (AllReadyH.cons (by rw [HO.out]; rfl) (fun K1 hK => ?_) AllReadyH.nil)
        · go_simp
          have PA3 := pts_one (OK3.out U hH)
          unfold Pt.v at PA3
          dsimp only at PA3
          have bq := (Below.refl U.heap.size U).alloc (Nat.le_refl _) (.cells #[.slice C k cc] 23)
          have hH2 := hH.alloc hH.size (.cells #[.slice C k cc] 23)
          refine hK.out _ _ hH2 (fun _ => ?_)
          clear hK
          try simp only [List.setIfInBounds_toArray, List.set_cons_zero, List.set_cons_succ]
          exact wpAnyH_eq (by kernel_rfl) (by kernel_rfl) (T234.out _ G1 G2 U.heap.size G4 hH2 PA3 (PA4.below bq)))
      have T2 : Hid (∀ (U : World) (G1 G2 G3 G4 : Nat), Below wr.heap.size wr U → wpAnyH Try.prog .any O q (fun U => Below wr.heap.size wr U) 10 #[true, true, true, true, true, true, true, true, true, true, true, true, true, true, false, false, false, true, false, false, false, false, false, false, false] { tmps := #[.slice A la ca, .slice B lb cb, .slice C lc cc, undef, undef, undef, .bool false, .int .i64 (k : Nat), .slice (some ⟨w.heap.size, 0, none⟩) k k, u9, .slice A la ca, .int .i64 (la : Nat), .slice B lb cb, .int .i64 (lb : Nat), .slice C lc cc, .int .i64 (lc : Nat), .int .i64 (k : Nat), .int .i64 (k : Nat), .bool (decide (20000 < (k : Int))), undef, .int .i64 (k : Nat), .slice (some ⟨w.heap.size, 0, none⟩) k k, .slice (some ⟨w.heap.size, 0, none⟩) k k, .int .i64 (k : Nat), .int .i64 (k : Nat), .bool false, u26, u27, u28, u29, u30, u31, u32, u33, u34, u35, u36, u37, u38, u39, u40, u41, u42, u43, u44, .slice A la ca, .int .i64 (k : Nat), .slice A k ca, .slice (some ⟨G1, 0, none⟩) 1 1, .int .u32 (s1 : Nat), .slice B lb cb, .int .i64 (k : Nat), .slice B k cb, .slice (some ⟨G2, 0, none⟩) 1 1, .int .u32 (s2 : Nat), .int .u32 (s1 ^^^ s2 : Nat), .slice C lc cc, .int .i64 (k : Nat), .slice C k cc, undef, undef, undef, .slice (some ⟨w.heap.size, 0, none⟩) k k, undef, undef, undef, undef, undef, undef], defers := [] } U) := Lib.hid (by
        intro U G1 G2 G3 G4 hH
        refine wpAnyH_ready (rs := [14, 18]) (by rw [HO.out]; decide +kernel) (by simp) (AllReadyH.cons (by rw [HO.out]; rfl) (fun K1 hK => ?_) (AllReadyH.cons (by rw [HO.out]; rfl) (fun K1 hK => ?_) AllReadyH.nil))
        · go_simp
          have PA3 := pts_one (OK3.out U hH)
          unfold Pt.v at PA3
          dsimp only at PA3
          have bq := (Below.refl U.heap.size U).alloc (Nat.le_refl _) (.cells #[.slice C k cc] 23)
          have hH2 := hH.alloc hH.size (.cells #[.slice C k cc] 23)
          refine hK.out _ _ hH2 (fun _ => ?_)
          clear hK
          try simp only [List.setIfInBounds_toArray, List.set_cons_zero, List.set_cons_succ]
          exact wpAnyH_eq (by kernel_rfl) (by kernel_rfl) (T23.out _ G1 G2 U.heap.size G4 hH2 PA3)
        · go_simp
          have PA4 := pts_one (OK4.out U hH)
          unfold Pt.v at PA4
          dsimp only at PA4
          have bq := (Below.refl U.heap.size U).alloc (Nat.le_refl _) (.cells #[.slice (some ⟨w.heap.size, 0, none⟩) k k] 23)
          have hH2 := hH.alloc hH.size (.cells #[.slice (some ⟨w.heap.size, 0, none⟩) k k] 23)
          refine hK.out _ _ hH2 (fun _ => ?_)
          clear hK
          try simp only [List.setIfInBounds_toArray, List.set_cons_zero, List.set_cons_succ]
          exact wpAnyH_eq (by kernel_rfl) (by kernel_rfl) (T24.out _ G1 G2 G3 U.heap.size hH2 PA4))
      have T1234 : Hid (∀ (U : World) (G1 G2 G3 G4 : Nat), Below wr.heap.size wr U → PtsAt U (some ⟨G2, 0, none⟩) 1 [(Pt.mk B k cb (ys.take k))] → PtsAt U (some ⟨G3, 0, none⟩) 1 [(Pt.mk C k cc (zs.take k))] → PtsAt U (some ⟨G4, 0, none⟩) 1 [(Pt.mk (some ⟨w.heap.size, 0, none⟩) k k ds)] → wpAnyH Try.prog .any O q (fun U => Below wr.heap.size wr U) 10 #[true, true, true, true, true, true, true, true, true, false, false, true, true, true, true, false, false, true, true, false, false, false, false, false, false] { tmps := #[.slice A la ca, .slice B lb cb, .slice C lc cc, undef, undef, undef, .bool false, .int .i64 (k : Nat), .slice (some ⟨w.heap.size, 0, none⟩) k k, u9, .slice A la ca, .int .i64 (la : Nat), .slice B lb cb, .int .i64 (lb : Nat), .slice C lc cc, .int .i64 (lc : Nat), .int .i64 (k : Nat), .int .i64 (k : Nat), .bool (decide (20000 < (k : Int))), undef, .int .i64 (k : Nat), .slice (some ⟨w.heap.size, 0, none⟩) k k, .slice (some ⟨w.heap.size, 0, none⟩) k k, .int .i64 (k : Nat), .int .i64 (k : Nat), .bool false, u26, u27, u28, u29, u30, u31, u32, u33, u34, u35, u36, u37, u38, u39, u40, u41, u42, u43, u44, .slice A la ca, .int .i64 (k : Nat), .slice A k ca, .slice (some ⟨G1, 0, none⟩) 1 1, .int .u32 (s1 : Nat), .slice B lb cb, .int .i64 (k : Nat), .slice B k cb, .slice (some ⟨G2, 0, none⟩) 1 1, undef, undef, .slice C lc cc, .int .i64 (k : Nat), .slice C k cc, .slice (some ⟨G3, 0, none⟩) 1 1, undef, undef, .slice (some ⟨w.heap.size, 0, none⟩) k k, .slice (some ⟨G4, 0, none⟩) 1 1, undef, undef, undef, undef, undef], defers := [] } U) := Lib.hid (by
        intro U G1 G2 G3 G4 hH PA2 PA3 PA4
        refine wpAnyH_ready (rs := [9]) (by rw [HO.out]; decide +kernel) (by simp) (AllReadyH.cons (by rw [HO.out]; rfl) (fun K1 hK => ?_) AllReadyH.nil)
        · go_simp
          refine (S2.out U G2 PA2).mono ?_; rintro e0 W1 ⟨rfl, bq⟩
          have hH2 := hH.trans (bq.mono hH.size)
          refine hK.out _ _ hH2 (fun _ => ?_)
          clear hK
          try simp only [List.setIfInBounds_toArray, List.set_cons_zero, List.set_cons_succ]
          refine wpAnyH_take (i := 10) (v := .int .u32 (s1 ^^^ s2 : Nat)) (by rw [HO.out]; rfl) (by rw [HO.out]; kernel_rfl) (by rw [HO.out]; kernel_rfl) (by rw [HO.out]; kernel_rfl) (HQP.out _ _) (.inl ⟨by rfl, ?_⟩) (by assumption) ?_
          · intro W hW; go_simp
          try simp only [List.getElem_toArray, List.getElem_cons_zero, List.getElem_cons_succ, Act.put, List.setIfInBounds_toArray, List.set_cons_zero, List.set_cons_succ]
          exact wpAnyH_eq (by kernel_rfl) (by kernel_rfl) (T234.out _ G1 G2 G3 G4 hH2 (PA3.below bq) (PA4.below bq)))
      have T123 : Hid (∀ (U : World) (G1 G2 G3 G4 : Nat), Below wr.heap.size wr U → PtsAt U (some ⟨G2, 0, none⟩) 1 [(Pt.mk B k cb (ys.take k))] → PtsAt U (some ⟨G3, 0, none⟩) 1 [(Pt.mk C k cc (zs.take k))] → wpAnyH Try.prog .any O q (fun U => Below wr.heap.size wr U) 11 #[true, true, true, true, true, true, true, true, true, false, false, true, true, true, true, false, false, true, false, false, false, false, false, false, false] { tmps := #[.slice A la ca, .slice B lb cb, .slice C lc cc, undef, undef, undef, .bool false, .int .i64 (k : Nat), .slice (some ⟨w.heap.size, 0, none⟩) k k, u9, .slice A la ca, .int .i64 (la : Nat), .slice B lb cb, .int .i64 (lb : Nat), .slice C lc cc, .int .i64 (lc : Nat), .int .i64 (k : Nat), .int .i64 (k : Nat), .bool (decide (20000 < (k : Int))), undef, .int .i64 (k : Nat), .slice (some ⟨w.heap.size, 0, none⟩) k k, .slice (some ⟨w.heap.size, 0, none⟩) k k, .int .i64 (k : Nat), .int .i64 (k : Nat), .bool false, u26, u27, u28, u29, u30, u31, u32, u33, u34, u35, u36, u37, u38, u39, u40, u41, u42, u43, u44, .slice A la ca, .int .i64 (k : Nat), .slice A k ca, .slice (some ⟨G1, 0, none⟩) 1 1, .int .u32 (s1 : Nat), .slice B lb cb, .int .i64 (k : Nat), .slice B k cb, .slice (some ⟨G2, 0, none⟩) 1 1, undef, undef, .slice C lc cc, .int .i64 (k : Nat), .slice C k cc, .slice (some ⟨G3, 0, none⟩) 1 1, undef, undef, .slice (some ⟨w.heap.size, 0, none⟩) k k, undef, undef, undef, undef, undef, undef], defers := [] } U) := Lib.hid (by
        intro U G1 G2 G3 G4 hH PA2 PA3
        refine wpAnyH_ready (rs := [9, 18]) (by rw [HO.out]; decide +kernel) (by simp) (AllReadyH.cons (by rw [HO.out]; rfl) (fun K1 hK => ?_) (AllReadyH.cons (by rw [HO.out]; rfl) (fun K1 hK => ?_) AllReadyH.nil))
        · go_simp
          refine (S2.out U G2 PA2).mono ?_; rintro e0 W1 ⟨rfl, bq⟩
          have hH2 := hH.trans (bq.mono hH.size)
          refine hK.out _ _ hH2 (fun _ => ?_)
          clear hK
          try simp only [List.setIfInBounds_toArray, List.set_cons_zero, List.set_cons_succ]
          refine wpAnyH_take (i := 10) (v := .int .u32 (s1 ^^^ s2 : Nat)) (by rw [HO.out]; rfl) (by rw [HO.out]; kernel_rfl) (by rw [HO.out]; kernel_rfl) (by rw [HO.out]; kernel_rfl) (HQP.out _ _) (.inl ⟨by rfl, ?_⟩) (by assumption) ?_
          · intro W hW; go_simp
          try simp only [List.getElem_toArray, List.getElem_cons_zero, List.getElem_cons_succ, Act.put, List.setIfInBounds_toArray, List.set_cons_zero, List.set_cons_succ]
          exact wpAnyH_eq (by kernel_rfl) (by kernel_rfl) (T23.out _ G1 G2 G3 G4 hH2 (PA3.below bq))
        · go_simp
          have PA4 := pts_one (OK4.out U hH)
          unfold Pt.v at PA4
          dsimp only at PA4
          have bq := (Below.refl U.heap.size U).alloc (Nat.le_refl _) (.cells #[.slice (some ⟨w.heap.size, 0, none⟩) k k] 23)
          have hH2 := hH.alloc hH.size (.cells #[.slice (some ⟨w.heap.size, 0, none⟩) k k] 23)
          refine hK.out _ _ hH2 (fun _ => ?_)
          clear hK
          try simp only [List.setIfInBounds_toArray, List.set_cons_zero, List.set_cons_succ]
          exact wpAnyH_eq (by kernel_rfl) (by kernel_rfl) (T1234.out _ G1 G2 G3 U.heap.size hH2 (PA2.below bq) (PA3.below bq) PA4))
      have T124 : Hid (∀ (U : World) (G1 G2 G3 G4 : Nat), Below wr.heap.size wr U → PtsAt U (some ⟨G2, 0, none⟩) 1 [(Pt.mk B k cb (ys.take k))] → PtsAt U (some ⟨G4, 0, none⟩) 1 [(Pt.mk (some ⟨w.heap.size, 0, none⟩) k k ds)] → wpAnyH Try.prog .any O q (fun U => Below wr.heap.size wr U) 11 #[true, true, true, true, true, true, true, true, true, false, false, true, true, true, false, false, false, true, true, false, false, false, false, false, false] { tmps := #[.slice A la ca, .slice B lb cb, .slice C lc cc, undef, undef, undef, .bool false, .int .i64 (k : Nat), .slice (some ⟨w.heap.size, 0, none⟩) k k, u9, .slice A la ca, .int .i64 (la : Nat), .slice B lb cb, .int .i64 (lb : Nat), .slice C lc cc, .int .i64 (lc : Nat), .int .i64 (k : Nat), .int .i64 (k : Nat), .bool (decide (20000 < (k : Int))), undef, .int .i64 (k : Nat), .slice (some ⟨w.heap.size, 0, none⟩) k k, .slice (some ⟨w.heap.size, 0, none⟩) k k, .int .i64 (k : Nat), .int .i64 (k : Nat), .bool false, u26, u27, u28, u29, u30, u31, u32, u33, u34, u35, u36, u37, u38, u39, u40, u41, u42, u43, u44, .slice A la ca, .int .i64 (k : Nat), .slice A k ca, .slice (some ⟨G1, 0, none⟩) 1 1, .int .u32 (s1 : Nat), .slice B lb cb, .int .i64 (k : Nat), .slice B k cb, .slice (some ⟨G2, 0, none⟩) 1 1, undef, undef, .slice C lc cc, .int .i64 (k : Nat), .slice C k cc, undef, undef, undef, .slice (some ⟨w.heap.size, 0, none⟩) k k, .slice (some ⟨G4, 0, none⟩) 1 1, undef, undef, undef, undef, undef], defers := [] } U) := Lib.hid (by
        intro U G1 G2 G3 G4 hH PA2 PA4
        refine wpAnyH_ready (rs := [9, 14]) (by rw [HO.out]; decide +kernel) (by simp) (AllReadyH.cons (by rw [HO.out]; rfl) (fun K1 hK => ?_) (AllReadyH.cons (by rw [HO.out]; rfl) (fun K1 hK => ?_) AllReadyH.nil))
        · go_simp
          refine (S2.out U G2 PA2).mono ?_; rintro e0 W1 ⟨rfl, bq⟩
          have hH2 := hH.trans (bq.mono hH.size)
          refine hK.out _ _ hH2 (fun _ => ?_)
          clear hK
          try simp only [List.setIfInBounds_toArray, List.set_cons_zero, List.set_cons_succ]
          refine wpAnyH_take (i := 10) (v := .int .u32 (s1 ^^^ s2 : Nat)) (by rw [HO.out]; rfl) (by rw [HO.out]; kernel_rfl) (by rw [HO.out]; kernel_rfl) (by rw [HO.out]; kernel_rfl) (HQP.out _ _) (.inl ⟨by rfl, ?_⟩) (by assumption) ?_
          · intro W hW; go_simp
          try simp only [List.getElem_toArray, List.getElem_cons_zero, List.getElem_cons_succ, Act.put, List.setIfInBounds_toArray, List.set_cons_zero, List.set_cons_succ]
          exact wpAnyH_eq (by kernel_rfl) (by kernel_rfl) (T24.out _ G1 G2 G3 G4 hH2 (PA4.below bq))
        · go_simp
          have PA3 := pts_one (OK3.out U hH)
          unfold Pt.v at PA3
          dsimp only at PA3
          have bq := (Below.refl U.heap.size U).alloc (Nat.le_refl _) (.cells #[.slice C k cc] 23)
          have hH2 := hH.alloc hH.size (.cells #[.slice C k cc] 23)
          refine hK.out _ _ hH2 (fun _ => ?_)
          clear hK
          try simp only [List.setIfInBounds_toArray, List.set_cons_zero, List.set_cons_succ]
          exact wpAnyH_eq (by kernel_rfl) (by kernel_rfl) (T1234.out _ G1 G2 U.heap.size G4 hH2 (PA2.below bq) PA3 (PA4.below bq)))
      have T134 : Hid (∀ (U : World) (G1 G2 G3 G4 : Nat), Below wr.heap.size wr U → PtsAt U (some ⟨G3, 0, none⟩) 1 [(Pt.mk C k cc (zs.take k))] → PtsAt U (some ⟨G4, 0, none⟩) 1 [(Pt.mk (some ⟨w.heap.size, 0, none⟩) k k ds)] → wpAnyH Try.prog .any O q (fun U => Below wr.heap.size wr U) 11 #[true, true, true, true, true, true, true, true, false, false, false, true, true, true, true, false, false, true, true, false, false, false, false, false, false] { tmps := #[.slice A la ca, .slice B lb cb, .slice C lc cc, undef, undef, undef, .bool false, .int .i64 (k : Nat), .slice (some ⟨w.heap.size, 0, none⟩) k k, u9, .slice A la ca, .int .i64 (la : Nat), .slice B lb cb, .int .i64 (lb : Nat), .slice C lc cc, .int .i64 (lc : Nat), .int .i64 (k : Nat), .int .i64 (k : Nat), .bool (decide (20000 < (k : Int))), undef, .int .i64 (k : Nat), .slice (some ⟨w.heap.size, 0, none⟩) k k, .slice (some ⟨w.heap.size, 0, none⟩) k k, .int .i64 (k : Nat), .int .i64 (k : Nat), .bool false, u26, u27, u28, u29, u30, u31, u32, u33, u34, u35, u36, u37, u38, u39, u40, u41, u42, u43, u44, .slice A la ca, .int .i64 (k : Nat), .slice A k ca, .slice (some ⟨G1, 0, none⟩) 1 1, .int .u32 (s1 : Nat), .slice B lb cb, .int .i64 (k : Nat), .slice B k cb, undef, undef, undef, .slice C lc cc, .int .i64 (k : Nat), .slice C k cc, .slice (some ⟨G3, 0, none⟩) 1 1, undef, undef, .slice (some ⟨w.heap.size, 0, none⟩) k k, .slice (some ⟨G4, 0, none⟩) 1 1, undef, undef, undef, undef, undef], defers := [] } U) := Lib.hid (by
        intro U G1 G2 G3 G4 hH PA3 PA4
        refine wpAnyH_ready (rs := [8]) (by rw [HO.out]; decide +kernel) (by simp) (AllReadyH.cons (by rw [HO.out]; rfl) (fun K1 hK => ?_) AllReadyH.nil)
        · go_simp
          have PA2 := pts_one (OK2.out U hH)
          unfold Pt.v at PA2
          dsimp only at PA2
          have bq := (Below.refl U.heap.size U).alloc (Nat.le_refl _) (.cells #[.slice B k cb] 23)
          have hH2 := hH.alloc hH.size (.cells #[.slice B k cb] 23)
          refine hK.out _ _ hH2 (fun _ => ?_)
          clear hK
          try simp only [List.setIfInBounds_toArray, List.set_cons_zero, List.set_cons_succ]
          exact wpAnyH_eq (by kernel_rfl) (by kernel_rfl) (T1234.out _ G1 U.heap.size G3 G4 hH2 PA2 (PA3.below bq) (PA4.below bq)))
      have T12 : Hid (∀ (U : World) (G1 G2 G3 G4 : Nat), Below wr.heap.size wr U → PtsAt U (some ⟨G2, 0, none⟩) 1 [(Pt.mk B k cb (ys.take k))] → wpAnyH Try.prog .any O q (fun U => Below wr.heap.size wr U) 12 #[true, true, true, true, true, true, true, true, true, false, false, true, true, true, false, false, false, true, false, false, false, false, false, false, false] { tmps := #[.slice A la ca, .slice B lb cb, .slice C lc cc, undef, undef, undef, .bool false, .int .i64 (k : Nat), .slice (some ⟨w.heap.size, 0, none⟩) k k, u9, .slice A la ca, .int .i64 (la : Nat), .slice B lb cb, .int .i64 (lb : Nat), .slice C lc cc, .int .i64 (lc : Nat), .int .i64 (k : Nat), .int .i64 (k : Nat), .bool (decide (20000 < (k : Int))), undef, .int .i64 (k : Nat), .slice (some ⟨w.heap.size, 0, none⟩) k k, .slice (some ⟨w.heap.size, 0, none⟩) k k, .int .i64 (k : Nat), .int .i64 (k : Nat), .bool false, u26, u27, u28, u29, u30, u31, u32, u33, u34, u35, u36, u37, u38, u39, u40, u41, u42, u43, u44, .slice A la ca, .int .i64 (k : Nat), .slice A k ca, .slice (some ⟨G1, 0, none⟩) 1 1, .int .u32 (s1 : Nat), .slice B lb cb, .int .i64 (k : Nat), .slice B k cb, .slice (some ⟨G2, 0, none⟩) 1 1, undef, undef, .slice C lc cc, .int .i64 (k : Nat), .slice C k cc, undef, undef, undef, .slice (some ⟨w.heap.size, 0, none⟩) k k, undef, undef, undef, undef, undef, undef], defers := [] } U) := Lib.hid (by
        intro U G1 G2 G3 G4 hH PA2
        refine wpAnyH_ready (rs := [9, 14, 18]) (by rw [HO.out]; decide +kernel) (by simp) (AllReadyH.cons (by rw [HO.out]; rfl) (fun K1 hK => ?_) (AllReadyH.cons (by rw [HO.out]; rfl) (fun K1 hK => ?_) (AllReadyH.cons (by rw [HO.out]; rfl) (fun K1 hK => ?_) AllReadyH.nil)))
        · go_simp
          refine (S2.out U G2 PA2).mono ?_; rintro e0 W1 ⟨rfl, bq⟩
          have hH2 := hH.trans (bq.mono hH.size)
          refine hK.out _ _ hH2 (fun _ => ?_)
          clear hK
          try simp only [List.setIfInBounds_toArray, List.set_cons_zero, List.set_cons_succ]
          refine wpAnyH_take (i := 10) (v := .int .u32 (s1 ^^^ s2 : Nat)) (by rw [HO.out]; rfl) (by rw [HO.out]; kernel_rfl) (by rw [HO.out]; kernel_rfl) (by rw [HO.out]; kernel_rfl) (HQP.out _ _) (.inl ⟨by rfl, ?_⟩) (by assumption) ?_
          · intro W hW; go_simp
          try simp only [List.getElem_toArray, List.getElem_cons_zero, List.getElem_cons_succ, Act.put, List.setIfInBounds_toArray, List.set_cons_zero, List.set_cons_succ]
          exact wpAnyH_eq (by kernel_rfl) (by kernel_rfl) (T2.out _ G1 G2 G3 G4 hH2 )
        · go_simp
          have PA3 := pts_one (OK3.out U hH)
          unfold Pt.v at PA3
          dsimp only at PA3
          have bq := (Below.refl U.heap.size U).alloc (Nat.le_refl _) (.cells #[.slice C k cc] 23)
          have hH2 := hH.alloc hH.size (.cells #[.slice C k cc] 23)
          refine hK.out _ _ hH2 (fun _ => ?_)
          clear hK
          try simp only [List.setIfInBounds_toArray, List.set_cons_zero, List.set_cons_succ]
          exact wpAnyH_eq (by kernel_rfl) (by kernel_rfl) (T123.out _ G1 G2 U.heap.size G4 hH2 (PA2.below bq) PA3)
        · go_simp
          have PA4 := pts_one (OK4.out U hH)
          unfold Pt.v at PA4
          dsimp only at PA4
          have bq := (Below.refl U.heap.size U).alloc (Nat.le_refl _) (.cells #[.slice (some ⟨w.heap.size, 0, none⟩) k k] 23)
          have hH2 := hH.alloc hH.size (.cells #[.slice (some ⟨w.heap.size, 0, none⟩) k k] 23)
          refine hK.out _ _ hH2 (fun _ => ?_)
          clear hK
          try simp only [List.setIfInBounds_toArray, List.set_cons_zero, List.set_cons_succ]
          exact wpAnyH_eq (by kernel_rfl) (by kernel_rfl) (T124.out _ G1 G2 G3 U.heap.size hH2 (PA2.below bq) PA4))
      have T13 : Hid (∀ (U : World) (G1 G2 G3 G4 : Nat), Below wr.heap.size wr U → PtsAt U (some ⟨G3, 0, none⟩) 1 [(Pt.mk C k cc (zs.take k))] → wpAnyH Try.prog .any O q (fun U => Below wr.heap.size wr U) 12 #[true, true, true, true, true, true, true, true, false, false, false, true, true, true, true, false, false, true, false, false, false, false, false, false, false] { tmps := #[.slice A la ca, .slice B lb cb, .slice C lc cc, undef, undef, undef, .bool false, .int .i64 (k : Nat), .slice (some ⟨w.heap.size, 0, none⟩) k k, u9, .slice A la ca, .int .i64 (la : Nat), .slice B lb cb, .int .i64 (lb : Nat), .slice C lc cc, .int .i64 (lc : Nat), .int .i64 (k : Nat), .int .i64 (k : Nat), .bool (decide (20000 < (k : Int))), undef, .int .i64 (k : Nat), .slice (some ⟨w.heap.size, 0, none⟩) k k, .slice (some ⟨w.heap.size, 0, none⟩) k k, .int .i64 (k : Nat), .int .i64 (k : Nat), .bool false, u26, u27, u28, u29, u30, u31, u32, u33, u34, u35, u36, u37, u38, u39, u40, u41, u42, u43, u44, .slice A la ca, .int .i64 (k : Nat), .slice A k ca, .slice (some ⟨G1, 0, none⟩) 1 1, .int .u32 (s1 : Nat), .slice B lb cb, .int .i64 (k : Nat), .slice B k cb, undef, undef, undef, .slice C lc cc, .int .i64 (k : Nat), .slice C k cc, .slice (some ⟨G3, 0, none⟩) 1 1, undef, undef, .slice (some ⟨w.heap.size, 0, none⟩) k k, undef, undef, undef, undef, undef, undef], defers := [] } U) := Lib.hid (by
        intro U G1 G2 G3 G4 hH PA3
        refine wpAnyH_ready (rs := [8, 18]) (by rw [HO.out]; decide +kernel) (by simp) (AllReadyH.cons (by rw [HO.out]; rfl) (fun K1 hK => ?_) (AllReadyH.cons (by rw [HO.out]; rfl) (fun K1 hK => ?_) AllReadyH.nil))
        · go_simp
          have PA2 := pts_one (OK2.out U hH)
          unfold Pt.v at PA2
          dsimp only at PA2
          have bq := (Below.refl U.heap.size U).alloc (Nat.le_refl _) (.cells #[.slice B k cb] 23)
          have hH2 := hH.alloc hH.size (.cells #[.slice B k cb] 23)
          refine hK.out _ _ hH2 (fun _ => ?_)
          clear hK
          try simp only [List.setIfInBounds_toArray, List.set_cons_zero, List.set_cons_succ]
          exact wpAnyH_eq (by kernel_rfl) (by kernel_rfl) (T123.out _ G1 U.heap.size G3 G4 hH2 PA2 (PA3.below bq))
        · go_simp
          have PA4 := pts_one (OK4.out U hH)
          unfold Pt.v at PA4
          dsimp only at PA4
          have bq := (Below.refl U.heap.size U).alloc (Nat.le_refl _) (.cells #[.slice (some ⟨w.heap.size, 0, none⟩) k k] 23)
          have hH2 := hH.alloc hH.size (.cells #[.slice (some ⟨w.heap.size, 0, none⟩) k k] 23)
          refine hK.out _ _ hH2 (fun _ => ?_)
          clear hK
          try simp only [List.setIfInBounds_toArray, List.set_cons_zero, List.set_cons_succ]
          exact wpAnyH_eq (by kernel_rfl) (by kernel_rfl) (T134.out _ G1 G2 G3 U.heap.size hH2 (PA3.below bq) PA4))
      have T14 : Hid (∀ (U : World) (G1 G2 G3 G4 : Nat), Below wr.heap.size wr U → PtsAt U (some ⟨G4, 0, none⟩) 1 [(Pt.mk (some ⟨w.heap.size, 0, none⟩) k k ds)] → wpAnyH Try.prog .any O q (fun U => Below wr.heap.size wr U) 12 #[true, true, true, true, true, true, true, true, false, false, false, true, true, true, false, false, false, true, true, false, false, false, false, false, false] { tmps := #[.slice A la ca, .slice B lb cb, .slice C lc cc, undef, undef, undef, .bool false, .int .i64 (k : Nat), .slice (some ⟨w.heap.size, 0, none⟩) k k, u9, .slice A la ca, .int .i64 (la : Nat), .slice B lb cb, .int .i64 (lb : Nat), .slice C lc cc, .int .i64 (lc : Nat), .int .i64 (k : Nat), .int .i64 (k : Nat), .bool (decide (20000 < (k : Int))), undef, .int .i64 (k : Nat), .slice (some ⟨w.heap.size, 0, none⟩) k k, .slice (some ⟨w.heap.size, 0, none⟩) k k, .int .i64 (k : Nat), .int .i64 (k : Nat), .bool false, u26, u27, u28, u29, u30, u31, u32, u33, u34, u35, u36, u37, u38, u39, u40, u41, u42, u43, u44, .slice A la ca, .int .i64 (k : Nat), .slice A k ca, .slice (some ⟨G1, 0, none⟩) 1 1, .int .u32 (s1 : Nat), .slice B lb cb, .int .i64 (k : Nat), .slice B k cb, undef, undef, undef, .slice C lc cc, .int .i64 (k : Nat), .slice C k cc, undef, undef, undef, .slice (some ⟨w.heap.size, 0, none⟩) k k, .slice (some ⟨G4, 0, none⟩) 1 1, undef, undef, undef, undef, undef], defers := [] } U) := Lib.hid (by
        intro U G1 G2 G3 G4 hH PA4
        refine wpAnyH_ready (rs := [8, 14]) (by rw [HO.out]; decide +kernel) (by simp) (AllReadyH.cons (by rw [HO.out]; rfl) (fun K1 hK => ?_) (AllReadyH.cons (by rw [HO.out]; rfl) (fun K1 hK => ?_) AllReadyH.nil))
        · go_simp
          have PA2 := pts_one (OK2.out U hH)
          unfold Pt.v at PA2
          dsimp only at PA2
          have bq := (Below.refl U.heap.size U).alloc (Nat.le_refl _) (.cells #[.slice B k cb] 23)
          have hH2 := hH.alloc hH.size (.cells #[.slice B k cb] 23)
          refine hK.out _ _ hH2 (fun _ => ?_)
          clear hK
          try simp only [List.setIfInBounds_toArray, List.set_cons_zero, List.set_cons_succ]
          exact wpAnyH_eq (by kernel_rfl) (by kernel_rfl) (T124.out _ G1 U.heap.size G3 G4 hH2 PA2 (PA4.below bq))
        · go_simp
          have PA3 := pts_one (OK3.out U hH)
          unfold Pt.v at PA3
          dsimp only at PA3
          have bq := (Below.refl U.heap.size U).alloc (Nat.le_refl _) (.cells #[.slice C k cc] 23)
          have hH2 := hH.alloc hH.size (.cells #[.slice C k cc] 23)
          refine hK.out _ _ hH2 (fun _ => ?_)
          clear hK
          try simp only [List.setIfInBounds_toArray, List.set_cons_zero, List.set_cons_succ]
          exact wpAnyH_eq (by kernel_rfl) (by kernel_rfl) (T134.out _ G1 G2 U.heap.size G4 hH2 PA3 (PA4.below bq)))
      have T1 : Hid (∀ (U : World) (G1 G2 G3 G4 : Nat), Below wr.heap.size wr U → wpAnyH Try.prog .any O q (fun U => Below wr.heap.size wr U) 13 #[true, true, true, true, true, true, true, true, false, false, false, true, true, true, false, false, false, true, false, false, false, false, false, false, false] { tmps := #[.slice A la ca, .slice B lb cb, .slice C lc cc, undef, undef, undef, .bool false, .int .i64 (k : Nat), .slice (some ⟨w.heap.size, 0, none⟩) k k, u9, .slice A la ca, .int .i64 (la : Nat), .slice B lb cb, .int .i64 (lb : Nat), .slice C lc cc, .int .i64 (lc : Nat), .int .i64 (k : Nat), .int .i64 (k : Nat), .bool (decide (20000 < (k : Int))), undef, .int .i64 (k : Nat), .slice (some ⟨w.heap.size, 0, none⟩) k k, .slice (some ⟨w.heap.size, 0, none⟩) k k, .int .i64 (k : Nat), .int .i64 (k : Nat), .bool false, u26, u27, u28, u29, u30, u31, u32, u33, u34, u35, u36, u37, u38, u39, u40, u41, u42, u43, u44, .slice A la ca, .int .i64 (k : Nat), .slice A k ca, .slice (some ⟨G1, 0, none⟩) 1 1, .int .u32 (s1 : Nat), .slice B lb cb, .int .i64 (k : Nat), .slice B k cb, undef, undef, undef, .slice C lc cc, .int .i64 (k : Nat), .slice C k cc, undef, undef, undef, .slice (some ⟨w.heap.size, 0, none⟩) k k, undef, undef, undef, undef, undef, undef], defers := [] } U) := Lib.hid (by
        intro U G1 G2 G3 G4 hH
        refine wpAnyH_ready (rs := [8, 14, 18]) (by rw [HO.out]; decide +kernel) (by simp) (AllReadyH.cons (by rw [HO.out]; rfl) (fun K1 hK => ?_) (AllReadyH.cons (by rw [HO.out]; rfl) (fun K1 hK => ?_) (AllReadyH.cons (by rw [HO.out]; rfl) (fun K1 hK => ?_) AllReadyH.nil)))
        · go_simp
          have PA2 := pts_one (OK2.out U hH)
          unfold Pt.v at PA2
          dsimp only at PA2
          have bq := (Below.refl U.heap.size U).alloc (Nat.le_refl _) (.cells #[.slice B k cb] 23)
          have hH2 := hH.alloc hH.size (.cells #[.slice B k cb] 23)
          refine hK.out _ _ hH2 (fun _ => ?_)
          clear hK
          try simp only [List.setIfInBounds_toArray, List.set_cons_zero, List.set_cons_succ]
          exact wpAnyH_eq (by kernel_rfl) (by kernel_rfl) (T12.out _ G1 U.heap.size G3 G4 hH2 PA2)
        · go_simp
          have PA3 := pts_one (OK3.out U hH)
          unfold Pt.v at PA3
          dsimp only at PA3
          have bq := (Below.refl U.heap.size U).alloc (Nat.le_refl _) (.cells #[.slice C k cc] 23)
          have hH2 := hH.alloc hH.size (.cells #[.slice C k cc] 23)
          refine hK.out _ _ hH2 (fun _ => ?_)
          clear hK
          try simp only [List.setIfInBounds_toArray, List.set_cons_zero, List.set_cons_succ]
          exact wpAnyH_eq (by kernel_rfl) (by kernel_rfl) (T13.out _ G1 G2 U.heap.size G4 hH2 PA3)
        · go_simp
          have PA4 := pts_one (OK4.out U hH)
          unfold Pt.v at PA4
          dsimp only at PA4
          have bq := (Below.refl U.heap.size U).alloc (Nat.le_refl _) (.cells #[.slice (some ⟨w.heap.size, 0, none⟩) k k] 23)
          have hH2 := hH.alloc hH.size (.cells #[.slice (some ⟨w.heap.size, 0, none⟩) k k] 23)
          refine hK.out _ _ hH2 (fun _ => ?_)
          clear hK
          try simp only [List.setIfInBounds_toArray, List.set_cons_zero, List.set_cons_succ]
          exact wpAnyH_eq (by kernel_rfl) (by kernel_rfl) (T14.out _ G1 G2 G3 U.heap.size hH2 PA4))
      have T01234 : Hid (∀ (U : World) (G1 G2 G3 G4 : Nat), Below wr.heap.size wr U → PtsAt U (some ⟨G1, 0, none⟩) 1 [(Pt.mk A k ca (xs.take k))] → PtsAt U (some ⟨G2, 0, none⟩) 1 [(Pt.mk B k cb (ys.take k))] → PtsAt U (some ⟨G3, 0, none⟩) 1 [(Pt.mk C k cc (zs.take k))] → PtsAt U (some ⟨G4, 0, none⟩) 1 [(Pt.mk (some ⟨w.heap.size, 0, none⟩) k k ds)] → wpAnyH Try.prog .any O q (fun U => Below wr.heap.size wr U) 11 #[true, true, true, true, false, true, true, true, true, false, false, true, true, true, true, false, false, true, true, false, false, false, false, false, false] { tmps := #[.slice A la ca, .slice B lb cb, .slice C lc cc, undef, undef, undef, .bool false, .int .i64 (k : Nat), .slice (some ⟨w.heap.size, 0, none⟩) k k, u9, .slice A la ca, .int .i64 (la : Nat), .slice B lb cb, .int .i64 (lb : Nat), .slice C lc cc, .int .i64 (lc : Nat), .int .i64 (k : Nat), .int .i64 (k : Nat), .bool (decide (20000 < (k : Int))), undef, .int .i64 (k : Nat), .slice (some ⟨w.heap.size, 0, none⟩) k k, .slice (some ⟨w.heap.size, 0, none⟩) k k, .int .i64 (k : Nat), .int .i64 (k : Nat), .bool false, u26, u27, u28, u29, u30, u31, u32, u33, u34, u35, u36, u37, u38, u39, u40, u41, u42, u43, u44, .slice A la ca, .int .i64 (k : Nat), .slice A k ca, .slice (some ⟨G1, 0, none⟩) 1 1, undef, .slice B lb cb, .int .i64 (k : Nat), .slice B k cb, .slice (some ⟨G2, 0, none⟩) 1 1, undef, undef, .slice C lc cc, .int .i64 (k : Nat), .slice C k cc, .slice (some ⟨G3, 0, none⟩) 1 1, undef, undef, .slice (some ⟨w.heap.size, 0, none⟩) k k, .slice (some ⟨G4, 0, none⟩) 1 1, undef, undef, undef, undef, undef], defers := [] } U) := Lib.hid (by
        intro U G1 G2 G3 G4 hH PA1 PA2 PA3 PA4
        refine wpAnyH_ready (rs := [4]) (by rw [HO.out]; decide +kernel) (by simp) (AllReadyH.cons (by rw [HO.out]; rfl) (fun K1 hK => ?_) AllReadyH.nil)
        · go_simp
          refine (S1.out U G1 PA1).mono ?_; rintro e0 W1 ⟨rfl, bq⟩
          have hH2 := hH.trans (bq.mono hH.size)
          refine hK.out _ _ hH2 (fun _ => ?_)
          clear hK
          try simp only [List.setIfInBounds_toArray, List.set_cons_zero, List.set_cons_succ]
          exact wpAnyH_eq (by kernel_rfl) (by kernel_rfl) (T1234.out _ G1 G2 G3 G4 hH2 (PA2.below bq) (PA3.below bq) (PA4.below bq)))
      have T0123 : Hid (∀ (U : World) (G1 G2 G3 G4 : Nat), Below wr.heap.size wr U → PtsAt U (some ⟨G1, 0, none⟩) 1 [(Pt.mk A k ca (xs.take k))] → PtsAt U (some ⟨G2, 0, none⟩) 1 [(Pt.mk B k cb (ys.take k))] → PtsAt U (some ⟨G3, 0, none⟩) 1 [(Pt.mk C k cc (zs.take k))] → wpAnyH Try.prog .any O q (fun U => Below wr.heap.size wr U) 12 #[true, true, true, true, false, true, true, true, true, false, false, true, true, true, true, false, false, true, false, false, false, false, false, false, false] { tmps := #[.slice A la ca, .slice B lb cb, .slice C lc cc, undef, undef, undef, .bool false, .int .i64 (k : Nat), .slice (some ⟨w.heap.size, 0, none⟩) k k, u9, .slice A la ca, .int .i64 (la : Nat), .slice B lb cb, .int .i64 (lb : Nat), .slice C lc cc, .int .i64 (lc : Nat), .int .i64 (k : Nat), .int .i64 (k : Nat), .bool (decide (20000 < (k : Int))), undef, .int .i64 (k : Nat), .slice (some ⟨w.heap.size, 0, none⟩) k k, .slice (some ⟨w.heap.size, 0, none⟩) k k, .int .i64 (k : Nat), .int .i64 (k : Nat), .bool false, u26, u27, u28, u29, u30, u31, u32, u33, u34, u35, u36, u37, u38, u39, u40, u41, u42, u43, u44, .slice A la ca, .int .i64 (k : Nat), .slice A k ca, .slice (some ⟨G1, 0, none⟩) 1 1, undef, .slice B lb cb, .int .i64 (k : Nat), .slice B k cb, .slice (some ⟨G2, 0, none⟩) 1 1, undef, undef, .slice C lc cc, .int .i64 (k : Nat), .slice C k cc, .slice (some ⟨G3, 0, none⟩) 1 1, undef, undef, .slice (some ⟨w.heap.size, 0, none⟩) k k, undef, undef, undef, undef, undef, undef], defers := [] } U) := Lib.hid (by
        intro U G1 G2 G3 G4 hH PA1 PA2 PA3
        refine wpAnyH_ready (rs := [4, 18]) (by rw [HO.out]; decide +kernel) (by simp) (AllReadyH.cons (by rw [HO.out]; rfl) (fun K1 hK => ?_) (AllReadyH.cons (by rw [HO.out]; rfl) (fun K1 hK => ?_) AllReadyH.nil))
        · go_simp
          refine (S1.out U G1 PA1).mono ?_; rintro e0 W1 ⟨rfl, bq⟩
          have hH2 := hH.trans (bq.mono hH.size)
          refine hK.out _ _ hH2 (fun _ => ?_)
          clear hK
          try simp only [List.setIfInBounds_toArray, List.set_cons_zero, List.set_cons_succ]
          exact wpAnyH_eq (by kernel_rfl) (by kernel_rfl) (T123.out _ G1 G2 G3 G4 hH2 (PA2.below bq) (PA3.below bq))
        · go_simp
          have PA4 := pts_one (OK4.out U hH)
          unfold Pt.v at PA4
          dsimp only at PA4
          have bq := (Below.refl U.heap.size U).alloc (Nat.le_refl _) (.cells #[.slice (some ⟨w.heap.size, 0, none⟩) k k] 23)
          have hH2 := hH.alloc hH.size (.cells #[.slice (some ⟨w.heap.size, 0, none⟩) k k] 23)
          refine hK.out _ _ hH2 (fun _ => ?_)
          clear hK
          try simp only [List.setIfInBounds_toArray, List.set_cons_zero, List.set_cons_succ]
          exact wpAnyH_eq (by kernel_rfl) (by kernel_rfl) (T01234.out _ G1 G2 G3 U.heap.size hH2 (PA1.below bq) (PA2.below bq) (PA3.below bq) PA4))
      have T0124 : Hid (∀ (U : World) (G1 G2 G3 G4 : Nat), Below wr.heap.size wr U → PtsAt U (some ⟨G1, 0, none⟩) 1 [(Pt.mk A k ca (xs.take k))] → PtsAt U (some ⟨G2, 0, none⟩) 1 [(Pt.mk B k cb (ys.take k))] → PtsAt U (some ⟨G4, 0, none⟩) 1 [(Pt.mk (some ⟨w.heap.size, 0, none⟩) k k ds)] → wpAnyH Try.prog .any O q (fun U => Below wr.heap.size wr U) 12 #[true, true, true, true, false, true, true, true, true, false, false, true, true, true, false, false, false, true, true, false, false, false, false, false, false] { tmps := #[.slice A la ca, .slice B lb cb, .slice C lc cc, undef, undef, undef, .bool false, .int .i64 (k : Nat), .slice (some ⟨w.heap.size, 0, none⟩) k k, u9, .slice A la ca, .int .i64 (la : Nat), .slice B lb cb, .int .i64 (lb : Nat), .slice C lc cc, .int .i64 (lc : Nat), .int .i64 (k : Nat), .int .i64 (k : Nat), .bool (decide (20000 < (k : Int))), undef, .int .i64 (k : Nat), .slice (some ⟨w.heap.size, 0, none⟩) k k, .slice (some ⟨w.heap.size, 0, none⟩) k k, .int .i64 (k : Nat), .int .i64 (k : Nat), .bool false, u26, u27, u28, u29, u30, u31, u32, u33, u34, u35, u36, u37, u38, u39, u40, u41, u42, u43, u44, .slice A la ca, .int .i64 (k : Nat), .slice A k ca, .slice (some ⟨G1, 0, none⟩) 1 1, undef, .slice B lb cb, .int .i64 (k : Nat), .slice B k cb, .slice (some ⟨G2, 0, none⟩) 1 1, undef, undef, .slice C lc cc, .int .i64 (k : Nat), .slice C k cc, undef, undef, undef, .slice (some ⟨w.heap.size, 0, none⟩) k k, .slice (some ⟨G4, 0, none⟩) 1 1, undef, undef, undef, undef, undef], defers := [] } U) := Lib.hid (by
        intro U G1 G2 G3 G4 hH PA1 PA2 PA4
        refine wpAnyH_ready (rs := [4, 14]) (by rw [HO.out]; decide +kernel) (by simp) (AllReadyH.cons (by rw [HO.out]; rfl) (fun K1 hK => ?_) (AllReadyH.cons (by rw [HO.out]; rfl) (fun K1 hK => ?_) AllReadyH.nil))
        · go_simp
          refine (S1.out U G1 PA1).mono ?_; rintro e0 W1 ⟨rfl, bq⟩
          have hH2 := hH.trans (bq.mono hH.size)
          refine hK.out _ _ hH2 (fun _ => ?_)
          clear hK
          try simp only [List.setIfInBounds_toArray, List.set_cons_zero, List.set_cons_succ]
          exact wpAnyH_eq (by kernel_rfl) (by kernel_rfl) (T124.out _ G1 G2 G3 G4 hH2 (PA2.below bq) (PA4.below bq))
        · go_simp
          have PA3 := pts_one (OK3.out U hH)
          unfold Pt.v at PA3
          dsimp only at PA3
          have bq := (Below.refl U.heap.size U).alloc (Nat.le_refl _) (.cells #[.slice C k cc] 23)
          have hH2 := hH.alloc hH.size (.cells #[.slice C k cc] 23)
          refine hK.out _ _ hH2 (fun _ => ?_)
          clear hK
          try simp only [List.setIfInBounds_toArray, List.set_cons_zero, List.set_cons_succ]
          exact wpAnyH_eq (by kernel_rfl) (by kernel_rfl) (T01234.out _ G1 G2 U.heap.size G4 hH2 (PA1.below bq) (PA2.below bq) PA3 (PA4.below bq)))
      have T0134 : Hid (∀ (U : World) (G1 G2 G3 G4 : Nat), Below wr.heap.size wr U → PtsAt U (some ⟨G1, 0, none⟩) 1 [(Pt.mk A k ca (xs.take k))] → PtsAt U (some ⟨G3, 0, none⟩) 1 [(Pt.mk C k cc (zs.take k))] → PtsAt U (some ⟨G4, 0, none⟩) 1 [(Pt.mk (some ⟨w.heap.size, 0, none⟩) k k ds)] → wpAnyH Try.prog .any O q (fun U => Below wr.heap.size wr U) 12 #[true, true, true, true, false, true, true, true, false, false, false, true, true, true, true, false, false, true, true, false, false, false, false, false, false] { tmps := #[.slice A la ca, .slice B lb cb, .slice C lc cc, undef, undef, undef, .bool false, .int .i64 (k : Nat), .slice (some ⟨w.heap.size, 0, none⟩) k k, u9, .slice A la ca, .int .i64 (la : Nat), .slice B lb cb, .int .i64 (lb : Nat), .slice C lc cc, .int .i64 (lc : Nat), .int .i64 (k : Nat), .int .i64 (k : Nat), .bool (decide (20000 < (k : Int))), undef, .int .i64 (k : Nat), .slice (some ⟨w.heap.size, 0, none⟩) k k, .slice (some ⟨w.heap.size, 0, none⟩) k k, .int .i64 (k : Nat), .int .i64 (k : Nat), .bool false, u26, u27, u28, u29, u30, u31, u32, u33, u34, u35, u36, u37, u38, u39, u40, u41, u42, u43, u44, .slice A la ca, .int .i64 (k : Nat), .slice A k ca, .slice (some ⟨G1, 0, none⟩) 1 1, undef, .slice B lb cb, .int .i64 (k : Nat), .slice B k cb, undef, undef, undef, .slice C lc cc, .int .i64 (k : Nat), .slice C k cc, .slice (some ⟨G3, 0, none⟩) 1 1, undef, undef, .slice (some ⟨w.heap.size, 0, none⟩) k k, .slice (some ⟨G4, 0, none⟩) 1 1, undef, undef, undef, undef, undef], defers := [] } U) := Lib.hid (by
        intro U G1 G2 G3 G4 hH PA1 PA3 PA4
        refine wpAnyH_ready (rs := [4, 8]) (by rw [HO.out]; decide +kernel) (by simp) (AllReadyH.cons (by rw [HO.out]; rfl) (fun K1 hK => ?_) (AllReadyH.cons (by rw [HO.out]; rfl) (fun K1 hK => ?_) AllReadyH.nil))
        · go_simp
          refine (S1.out U G1 PA1).mono ?_; rintro e0 W1 ⟨rfl, bq⟩
          have hH2 := hH.trans (bq.mono hH.size)
          refine hK.out _ _ hH2 (fun _ => ?_)
          clear hK
          try simp only [List.setIfInBounds_toArray, List.set_cons_zero, List.set_cons_succ]
          exact wpAnyH_eq (by kernel_rfl) (by kernel_rfl) (T134.out _ G1 G2 G3 G4 hH2 (PA3.below bq) (PA4.below bq))
        · go_simp
          have PA2 := pts_one (OK2.out U hH)
          unfold Pt.v at PA2
          dsimp only at PA2
          have bq := (Below.refl U.heap.size U).alloc (Nat.le_refl _) (.cells #[.slice B k cb] 23)
          have hH2 := hH.alloc hH.size (.cells #[.slice B k cb] 23)
          refine hK.out _ _ hH2 (fun _ => ?_)
          clear hK
          try simp only [List.setIfInBounds_toArray, List.set_cons_zero, List.set_cons_succ]
          exact wpAnyH_eq (by kernel_rfl) (by kernel_rfl) (T01234.out _ G1 U.heap.size G3 G4 hH2 (PA1.below bq) PA2 (PA3.below bq) (PA4.below bq)))
      have T0234 : Hid (∀ (U : World) (G1 G2 G3 G4 : Nat), Below wr.heap.size wr U → PtsAt U (some ⟨G2, 0, none⟩) 1 [(Pt.mk B k cb (ys.take k))] → PtsAt U (some ⟨G3, 0, none⟩) 1 [(Pt.mk C k cc (zs.take k))] → PtsAt U (some ⟨G4, 0, none⟩) 1 [(Pt.mk (some ⟨w.heap.size, 0, none⟩) k k ds)] → wpAnyH Try.prog .any O q (fun U => Below wr.heap.size wr U) 12 #[true, true, true, false, false, true, true, true, true, false, false, true, true, true, true, false, false, true, true, false, false, false, false, false, false] { tmps := #[.slice A la ca, .slice B lb cb, .slice C lc cc, undef, undef, undef, .bool false, .int .i64 (k : Nat), .slice (some ⟨w.heap.size, 0, none⟩) k k, u9, .slice A la ca, .int .i64 (la : Nat), .slice B lb cb, .int .i64 (lb : Nat), .slice C lc cc, .int .i64 (lc : Nat), .int .i64 (k : Nat), .int .i64 (k : Nat), .bool (decide (20000 < (k : Int))), undef, .int .i64 (k : Nat), .slice (some ⟨w.heap.size, 0, none⟩) k k, .slice (some ⟨w.heap.size, 0, none⟩) k k, .int .i64 (k : Nat), .int .i64 (k : Nat), .bool false, u26, u27, u28, u29, u30, u31, u32, u33, u34, u35, u36, u37, u38, u39, u40, u41, u42, u43, u44, .slice A la ca, .int .i64 (k : Nat), .slice A k ca, undef, undef, .slice B lb cb, .int .i64 (k : Nat), .slice B k cb, .slice (some ⟨G2, 0, none⟩) 1 1, undef, undef, .slice C lc cc, .int .i64 (k : Nat), .slice C k cc, .slice (some ⟨G3, 0, none⟩) 1 1, undef, undef, .slice (some ⟨w.heap.size, 0, none⟩) k k, .slice (some ⟨G4, 0, none⟩) 1 1, undef, undef, undef, undef, undef], defers := [] } U) := Lib.hid (by
        intro U G1 G2 G3 G4 hH PA2 PA3 PA4
        refine wpAnyH_ready (rs := [3]) (by rw [HO.out]; decide +kernel) (by simp) (AllReadyH.cons (by rw [HO.out]; rfl) (fun K1 hK => ?_) AllReadyH.nil)
        · go_simp
          have PA1 := pts_one (OK1.out U hH)
          unfold Pt.v at PA1
          dsimp only at PA1
          have bq := (Below.refl U.heap.size U).alloc (Nat.le_refl _) (.cells #[.slice A k ca] 23)
          have hH2 := hH.alloc hH.size (.cells #[.slice A k ca] 23)
          refine hK.out _ _ hH2 (fun _ => ?_)
          clear hK
          try simp only [List.setIfInBounds_toArray, List.set_cons_zero, List.set_cons_succ]
          exact wpAnyH_eq (by kernel_rfl) (by kernel_rfl) (T01234.out _ U.heap.size G2 G3 G4 hH2 PA1 (PA2.below bq) (PA3.below bq) (PA4.below bq)))
      have T012 : Hid (∀ (U : World) (G1 G2 G3 G4 : Nat), Below wr.heap.size wr U → PtsAt U (some ⟨G1, 0, none⟩) 1 [(Pt.mk A k ca (xs.take k))] → PtsAt U (some ⟨G2, 0, none⟩) 1 [(Pt.mk B k cb (ys.take k))] → wpAnyH Try.prog .any O q (fun U => Below wr.heap.size wr U) 13 #[true, true, true, true, false, true, true, true, true, false, false, true, true, true, false, false, false, true, false, false, false, false, false, false, false] { tmps := #[.slice A la ca, .slice B lb cb, .slice C lc cc, undef, undef, undef, .bool false, .int .i64 (k : Nat), .slice (some ⟨w.heap.size, 0, none⟩) k k, u9, .slice A la ca, .int .i64 (la : Nat), .slice B lb cb, .int .i64 (lb : Nat), .slice C lc cc, .int .i64 (lc : Nat), .int .i64 (k : Nat), .int .i64 (k : Nat), .bool (decide (20000 < (k : Int))), undef, .int .i64 (k : Nat), .slice (some ⟨w.heap.size, 0, none⟩) k k, .slice (some ⟨w.heap.size, 0, none⟩) k k, .int .i64 (k : Nat), .int .i64 (k : Nat), .bool false, u26, u27, u28, u29, u30, u31, u32, u33, u34, u35, u36, u37, u38, u39, u40, u41, u42, u43, u44, .slice A la ca, .int .i64 (k : Nat), .slice A k ca, .slice (some ⟨G1, 0, none⟩) 1 1, undef, .slice B lb cb, .int .i64 (k : Nat), .slice B k cb, .slice (some ⟨G2, 0, none⟩) 1 1, undef, undef, .slice C lc cc, .int .i64 (k : Nat), .slice C k cc, undef, undef, undef, .slice (some ⟨w.heap.size, 0, none⟩) k k, undef, undef, undef, undef, undef, undef], defers := [] } U) := Lib.hid (by
        intro U G1 G2 G3 G4 hH PA1 PA2
        refine wpAnyH_ready (rs := [4, 14, 18]) (by rw [HO.out]; decide +kernel) (by simp) (AllReadyH.cons (by rw [HO.out]; rfl) (fun K1 hK => ?_) (AllReadyH.cons (by rw [HO.out]; rfl) (fun K1 hK => ?_) (AllReadyH.cons (by rw [HO.out]; rfl) (fun K1 hK => ?_) AllReadyH.nil)))
        · go_simp
          refine (S1.out U G1 PA1).mono ?_; rintro e0 W1 ⟨rfl, bq⟩
          have hH2 := hH.trans (bq.mono hH.size)
          refine hK.out _ _ hH2 (fun _ => ?_)
          clear hK
          try simp only [List.setIfInBounds_toArray, List.set_cons_zero, List.set_cons_succ]
          exact wpAnyH_eq (by kernel_rfl) (by kernel_rfl) (T12.out _ G1 G2 G3 G4 hH2 (PA2.below bq))
        · go_simp
          have PA3 := pts_one (OK3.out U hH)
          unfold Pt.v at PA3
          dsimp only at PA3
          have bq := (Below.refl U.heap.size U).alloc (Nat.le_refl _) (.cells #[.slice C k cc] 23)
          have hH2 := hH.alloc hH.size (.cells #[.slice C k cc] 23)
          refine hK.out _ _ hH2 (fun _ => ?_)
          clear hK
          try simp only [List.setIfInBounds_toArray, List.set_cons_zero, List.set_cons_succ]
          exact wpAnyH_eq (by kernel_rfl) (by kernel_rfl) (T0123.out _ G1 G2 U.heap.size G4 hH2 (PA1.below bq) (PA2.below bq) PA3)
        · go_simp
          have PA4 := pts_one (OK4.out U hH)
          unfold Pt.v at PA4
          dsimp only at PA4
          have bq := (Below.refl U.heap.size U).alloc (Nat.le_refl _) (.cells #[.slice (some ⟨w.heap.size, 0, none⟩) k k] 23)
          have hH2 := hH.alloc hH.size (.cells #[.slice (some ⟨w.heap.size, 0, none⟩) k k] 23)
          refine hK.out _ _ hH2 (fun _ => ?_)
          clear hK
          try simp only [List.setIfInBounds_toArray, List.set_cons_zero, List.set_cons_succ]
          exact wpAnyH_eq (by kernel_rfl) (by kernel_rfl) (T0124.out _ G1 G2 G3 U.heap.size hH2 (PA1.below bq) (PA2.below bq) PA4))
      have T013 : Hid (∀ (U : World) (G1 G2 G3 G4 : Nat), Below wr.heap.size wr U → PtsAt U (some ⟨G1, 0, none⟩) 1 [(Pt.mk A k ca (xs.take k))] → PtsAt U (some ⟨G3, 0, none⟩) 1 [(Pt.mk C k cc (zs.take k))] → wpAnyH Try.prog .any O q (fun U => Below wr.heap.size wr U) 13 #[true, true, true, true, false, true, true, true, false, false, false, true, true, true, true, false, false, true, false, false, false, false, false, false, false] { tmps := #[.slice A la ca, .slice B lb cb, .slice C lc cc, undef, undef, undef, .bool false, .int .i64 (k : Nat), .slice (some ⟨w.heap.size, 0, none⟩) k k, u9, .slice A la ca, .int .i64 (la : Nat), .slice B lb cb, .int .i64 (lb : Nat), .slice C lc cc, .int .i64 (lc : Nat), .int .i64 (k : Nat), .int .i64 (k : Nat), .bool (decide (20000 < (k : Int))), undef, .int .i64 (k : Nat), .slice (some ⟨w.heap.size, 0, none⟩) k k, .slice (some ⟨w.heap.size, 0, none⟩) k k, .int .i64 (k : Nat), .int .i64 (k : Nat), .bool false, u26, u27, u28, u29, u30, u31, u32, u33, u34, u35, u36, u37, u38, u39, u40, u41, u42, u43, u44, .slice A la ca, .int .i64 (k : Nat), .slice A k ca, .slice (some ⟨G1, 0, none⟩) 1 1, undef, .slice B lb cb, .int .i64 (k : Nat), .slice B k cb, undef, undef, undef, .slice C lc cc, .int .i64 (k : Nat), .slice C k cc, .slice (some ⟨G3, 0, none⟩) 1 1, undef, undef, .slice (some ⟨w.heap.size, 0, none⟩) k k, undef, undef, undef, undef, undef, undef], defers := [] } U) := Lib.hid (by
        intro U G1 G2 G3 G4 hH PA1 PA3
        refine wpAnyH_ready (rs := [4, 8, 18]) (by rw [HO.out]; decide +kernel) (by simp) (AllReadyH.cons (by rw [HO.out]; rfl) (fun K1 hK => ?_) (AllReadyH.cons (by rw [HO.out]; rfl) (fun K1 hK => ?_) (AllReadyH.cons (by rw [HO.out]; rfl) (fun K1 hK => ?_) AllReadyH.nil)))
        · go_simp
          refine (S1.out U G1 PA1).mono ?_; rintro e0 W1 ⟨rfl, bq⟩
          have hH2 := hH.trans (bq.mono hH.size)
          refine hK.out _ _ hH2 (fun _ => ?_)
          clear hK
          try simp only [List.setIfInBounds_toArray, List.set_cons_zero, List.set_cons_succ]
          exact wpAnyH_eq (by kernel_rfl) (by kernel_rfl) (T13.out _ G1 G2 G3 G4 hH2 (PA3.below bq))
        · go_simp
          have PA2 := pts_one (OK2.out U hH)
          unfold Pt.v at PA2
          dsimp only at PA2
          have bq := (Below.refl U.heap.size U).alloc (Nat.le_refl _) (.cells #[.slice B k cb] 23)
          have hH2 := hH.alloc hH.size (.cells #[.slice B k cb] 23)
          refine hK.out _ _ hH2 (fun _ => ?_)
          clear hK
          try simp only [List.setIfInBounds_toArray, List.set_cons_zero, List.set_cons_succ]
          exact wpAnyH_eq (by kernel_rfl) (by kernel_rfl) (T0123.out _ G1 U.heap.size G3 G4 hH2 (PA1.below bq) PA2 (PA3.below bq))
        · go_simp
          have PA4 := pts_one (OK4.out U hH)
          unfold Pt.v at PA4
          dsimp only at PA4
          have bq := (Below.refl U.heap.size U).alloc (Nat.le_refl _) (.cells #[.slice (some ⟨w.heap.size, 0, none⟩) k k] 23)
          have hH2 := hH.alloc hH.size (.cells #[.slice (some ⟨w.heap.size, 0, none⟩) k k] 23)
          refine hK.out _ _ hH2 (fun _ => ?_)
          clear hK
          try simp only [List.setIfInBounds_toArray, List.set_cons_zero, List.set_cons_succ]
          exact wpAnyH_eq (by kernel_rfl) (by kernel_rfl) (T0134.out _ G1 G2 G3 U.heap.size hH2 (PA1.below bq) (PA3.below bq) PA4))
      have T014 : Hid (∀ (U : World) (G1 G2 G3 G4 : Nat), Below wr.heap.size wr U → PtsAt U (some ⟨G1, 0, none⟩) 1 [(Pt.mk A k ca (xs.take k))] → PtsAt U (some ⟨G4, 0, none⟩) 1 [(Pt.mk (some ⟨w.heap.size, 0, none⟩) k k ds)] → wpAnyH Try.prog .any O q (fun U => Below wr.heap.size wr U) 13 #[true, true, true, true, false, true, true, true, false, false, false, true, true, true, false, false, false, true, true, false, false, false, false, false, false] { tmps := #[.slice A la ca, .slice B lb cb, .slice C lc cc, undef, undef, undef, .bool false, .int .i64 (k : Nat), .slice (some ⟨w.heap.size, 0, none⟩) k k, u9, .slice A la ca, .int .i64 (la : Nat), .slice B lb cb, .int .i64 (lb : Nat), .slice C lc cc, .int .i64 (lc : Nat), .int .i64 (k : Nat), .int .i64 (k : Nat), .bool (decide (20000 < (k : Int))), undef, .int .i64 (k : Nat), .slice (some ⟨w.heap.size, 0, none⟩) k k, .slice (some ⟨w.heap.size, 0, none⟩) k k, .int .i64 (k : Nat), .int .i64 (k : Nat), .bool false, u26, u27, u28, u29, u30, u31, u32, u33, u34, u35, u36, u37, u38, u39, u40, u41, u42, u43, u44, .slice A la ca, .int .i64 (k : Nat), .slice A k ca, .slice (some ⟨G1, 0, none⟩) 1 1, undef, .slice B lb cb, .int .i64 (k : Nat), .slice B k cb, undef, undef, undef, .slice C lc cc, .int .i64 (k : Nat), .slice C k cc, undef, undef, undef, .slice (some ⟨w.heap.size, 0, none⟩) k k, .slice (some ⟨G4, 0, none⟩) 1 1, undef, undef, undef, undef, undef], defers := [] } U) := Lib.hid (by
        intro U G1 G2 G3 G4 hH PA1 PA4
        refine wpAnyH_ready (rs := [4, 8, 14]) (by rw [HO.out]; decide +kernel) (by simp) (AllReadyH.cons (by rw [HO.out]; rfl) (fun K1 hK => ?_) (AllReadyH.cons (by rw [HO.out]; rfl) (fun K1 hK => ?_) (AllReadyH.cons (by rw [HO.out]; rfl) (fun K1 hK => ?_) AllReadyH.nil)))
        · go_simp
          refine (S1.out U G1 PA1).mono ?_; rintro e0 W1 ⟨rfl, bq⟩
          have hH2 := hH.trans (bq.mono hH.size)
          refine hK.out _ _ hH2 (fun _ => ?_)
          clear hK
          try simp only [List.setIfInBounds_toArray, List.set_cons_zero, List.set_cons_succ]
          exact wpAnyH_eq (by kernel_rfl) (by kernel_rfl) (T14.out _ G1 G2 G3 G4 hH2 (PA4.below bq))
        · go_simp
          have PA2 := pts_one (OK2.out U hH)
          unfold Pt.v at PA2
          dsimp only at PA2
          have bq := (Below.refl U.heap.size U).alloc (Nat.le_refl _) (.cells #[.slice B k cb] 23)
          have hH2 := hH.alloc hH.size (.cells #[.slice B k cb] 23)
          refine hK.out _ _ hH2 (fun _ => ?_)
          clear hK
          try simp only [List.setIfInBounds_toArray, List.set_cons_zero, List.set_cons_succ]
          exact wpAnyH_eq (by kernel_rfl) (by kernel_rfl) (T0124.out _ G1 U.heap.size G3 G4 hH2 (PA1.below bq) PA2 (PA4.below bq))
        · go_simp
          have PA3 := pts_one (OK3.out U hH)
          unfold Pt.v at PA3
          dsimp only at PA3
          have bq := (Below.refl U.heap.size U).alloc (Nat.le_refl _) (.cells #[.slice C k cc] 23)
          have hH2 := hH.alloc hH.size (.cells #[.slice C k cc] 23)
          refine hK.out _ _ hH2 (fun _ => ?_)
          clear hK
          try simp only [List.setIfInBounds_toArray, List.set_cons_zero, List.set_cons_succ]
          exact wpAnyH_eq (by kernel_rfl) (by kernel_rfl) (T0134.out _ G1 G2 U.heap.size G4 hH2 (PA1.below bq) PA3 (PA4.below bq)))
      have T023 : Hid (∀ (U : World) (G1 G2 G3 G4 : Nat), Below wr.heap.size wr U → PtsAt U (some ⟨G2, 0, none⟩) 1 [(Pt.mk B k cb (ys.take k))] → PtsAt U (some ⟨G3, 0, none⟩) 1 [(Pt.mk C k cc (zs.take k))] → wpAnyH Try.prog .any O q (fun U => Below wr.heap.size wr U) 13 #[true, true, true, false, false, true, true, true, true, false, false, true, true, true, true, false, false, true, false, false, false, false, false, false, false] { tmps := #[.slice A la ca, .slice B lb cb, .slice C lc cc, undef, undef, undef, .bool false, .int .i64 (k : Nat), .slice (some ⟨w.heap.size, 0, none⟩) k k, u9, .slice A la ca, .int .i64 (la : Nat), .slice B lb cb, .int .i64 (lb : Nat), .slice C lc cc, .int .i64 (lc : Nat), .int .i64 (k : Nat), .int .i64 (k : Nat), .bool (decide (20000 < (k : Int))), undef, .int .i64 (k : Nat), .slice (some ⟨w.heap.size, 0, none⟩) k k, .slice (some ⟨w.heap.size, 0, none⟩) k k, .int .i64 (k : Nat), .int .i64 (k : Nat), .bool false, u26, u27, u28, u29, u30, u31, u32, u33, u34, u35, u36, u37, u38, u39, u40, u41, u42, u43, u44, .slice A la ca, .int .i64 (k : Nat), .slice A k ca, undef, undef, .slice B lb cb, .int .i64 (k : Nat), .slice B k cb, .slice (some ⟨G2, 0, none⟩) 1 1, undef, undef, .slice C lc cc, .int .i64 (k : Nat), .slice C k cc, .slice (some ⟨G3, 0, none⟩) 1 1, undef, undef, .slice (some ⟨w.heap.size, 0, none⟩) k k, undef, undef, undef, undef, undef, undef], defers := [] } U) := Lib.hid (by
        intro U G1 G2 G3 G4 hH PA2 PA3
        refine wpAnyH_ready (rs := [3, 18]) (by rw [HO.out]; decide +kernel) (by simp) (AllReadyH.cons (by rw [HO.out]; rfl) (fun K1 hK => ?_) (AllReadyH.cons (by rw [HO.out]; rfl) (fun K1 hK => ?_) AllReadyH.nil))
        · go_simp
          have PA1 := pts_one (OK1.out U hH)
          unfold Pt.v at PA1
          dsimp only at PA1
          have bq := (Below.refl U.heap.size U).alloc (Nat.le_refl _) (.cells #[.slice A k ca] 23)
          have hH2 := hH.alloc hH.size (.cells #[.slice A k ca] 23)
          refine hK.out _ _ hH2 (fun _ => ?_)
          clear hK
          try simp only [List.setIfInBounds_toArray, List.set_cons_zero, List.set_cons_succ]
          exact wpAnyH_eq (by kernel_rfl) (by kernel_rfl) (T0123.out _ U.heap.size G2 G3 G4 hH2 PA1 (PA2.below bq) (PA3.below bq))
        · go_simp
          have PA4 := pts_one (OK4.out U hH)
          unfold Pt.v at PA4
          dsimp only at PA4
          have bq := (Below.refl U.heap.size U).alloc (Nat.le_refl _) (.cells #[.slice (some ⟨w.heap.size, 0, none⟩) k k] 23)
          have hH2 := hH.alloc hH.size (.cells #[.slice (some ⟨w.heap.size, 0, none⟩) k k] 23)
          refine hK.out _ _ hH2 (fun _ => ?_)
          clear hK
          try simp only [List.setIfInBounds_toArray, List.set_cons_zero, List.set_cons_succ]
          exact wpAnyH_eq (by kernel_rfl) (by kernel_rfl) (T0234.out _ G1 G2 G3 U.heap.size hH2 (PA2.below bq) (PA3.below bq) PA4))
      have T024 : Hid (∀ (U : World) (G1 G2 G3 G4 : Nat), Below wr.heap.size wr U → PtsAt U (some ⟨G2, 0, none⟩) 1 [(Pt.mk B k cb (ys.take k))] → PtsAt U (some ⟨G4, 0, none⟩) 1 [(Pt.mk (some ⟨w.heap.size, 0, none⟩) k k ds)] → wpAnyH Try.prog .any O q (fun U => Below wr.heap.size wr U) 13 #[true, true, true, false, false, true, true, true, true, false, false, true, true, true, false, false, false, true, true, false, false, false, false, false, false] { tmps := #[.slice A la ca, .slice B lb cb, .slice C lc cc, undef, undef, undef, .bool false, .int .i64 (k : Nat), .slice (some ⟨w.heap.size, 0, none⟩) k k, u9, .slice A la ca, .int .i64 (la : Nat), .slice B lb cb, .int .i64 (lb : Nat), .slice C lc cc, .int .i64 (lc : Nat), .int .i64 (k : Nat), .int .i64 (k : Nat), .bool (decide (20000 < (k : Int))), undef, .int .i64 (k : Nat), .slice (some ⟨w.heap.size, 0, none⟩) k k, .slice (some ⟨w.heap.size, 0, none⟩) k k, .int .i64 (k : Nat), .int .i64 (k : Nat), .bool false, u26, u27, u28, u29, u30, u31, u32, u33, u34, u35, u36, u37, u38, u39, u40, u41, u42, u43, u44, .slice A la ca, .int .i64 (k : Nat), .slice A k ca, undef, undef, .slice B lb cb, .int .i64 (k : Nat), .slice B k cb, .slice (some ⟨G2, 0, none⟩) 1 1, undef, undef, .slice C lc cc, .int .i64 (k : Nat), .slice C k cc, undef, undef, undef, .slice (some ⟨w.heap.size, 0, none⟩) k k, .slice (some ⟨G4, 0, none⟩) 1 1, undef, undef, undef, undef, undef], defers := [] } U) := Lib.hid (by
        intro U G1 G2 G3 G4 hH PA2 PA4
        refine wpAnyH_ready (rs := [3, 14]) (by rw [HO.out]; decide +kernel) (by simp) (AllReadyH.cons (by rw [HO.out]; rfl) (fun K1 hK => ?_) (AllReadyH.cons (by rw [HO.out]; rfl) (fun K1 hK => ?_) AllReadyH.nil))
        · go_simp
          have PA1 := pts_one (OK1.out U hH)
          unfold Pt.v at PA1
          dsimp only at PA1
          have bq := (Below.refl U.heap.size U).alloc (Nat.le_refl _) (.cells #[.slice A k ca] 23)
          have hH2 := hH.alloc hH.size (.cells #[.slice A k ca] 23)
          refine hK.out _ _ hH2 (fun _ => ?_)
          clear hK
          try simp only [List.setIfInBounds_toArray, List.set_cons_zero, List.set_cons_succ]
          exact wpAnyH_eq (by kernel_rfl) (by kernel_rfl) (T0124.out _ U.heap.size G2 G3 G4 hH2 PA1 (PA2.below bq) (PA4.below bq))
        · go_simp
          have PA3 := pts_one (OK3.out U hH)
          unfold Pt.v at PA3
          dsimp only at PA3
          have bq := (Below.refl U.heap.size U).alloc (Nat.le_refl _) (.cells #[.slice C k cc] 23)
          have hH2 := hH.alloc hH.size (.cells #[.slice C k cc] 23)
          refine hK.out _ _ hH2 (fun _ => ?_)
          clear hK
          try simp only [List.setIfInBounds_toArray, List.set_cons_zero, List.set_cons_succ]
          exact wpAnyH_eq (by kernel_rfl) (by kernel_rfl) (T0234.out _ G1 G2 U.heap.size G4 hH2 (PA2.below bq) PA3 (PA4.below bq)))
      have T034 : Hid (∀ (U : World) (G1 G2 G3 G4 : Nat), Below wr.heap.size wr U → PtsAt U (some ⟨G3, 0, none⟩) 1 [(Pt.mk C k cc (zs.take k))] → PtsAt U (some ⟨G4, 0, none⟩) 1 [(Pt.mk (some ⟨w.heap.size, 0, none⟩) k k ds)] → wpAnyH Try.prog .any O q (fun U => Below wr.heap.size wr U) 13 #[true, true, true, false, false, true, true, true, false, false, false, true, true, true, true, false, false, true, true, false, false, false, false, false, false] { tmps := #[.slice A la ca, .slice B lb cb, .slice C lc cc, undef, undef, undef, .bool false, .int .i64 (k : Nat), .slice (some ⟨w.heap.size, 0, none⟩) k k, u9, .slice A la ca, .int .i64 (la : Nat), .slice B lb cb, .int .i64 (lb : Nat), .slice C lc cc, .int .i64 (lc : Nat), .int .i64 (k : Nat), .int .i64 (k : Nat), .bool (decide (20000 < (k : Int))), undef, .int .i64 (k : Nat), .slice (some ⟨w.heap.size, 0, none⟩) k k, .slice (some ⟨w.heap.size, 0, none⟩) k k, .int .i64 (k : Nat), .int .i64 (k : Nat), .bool false, u26, u27, u28, u29, u30, u31, u32, u33, u34, u35, u36, u37, u38, u39, u40, u41, u42, u43, u44, .slice A la ca, .int .i64 (k : Nat), .slice A k ca, undef, undef, .slice B lb cb, .int .i64 (k : Nat), .slice B k cb, undef, undef, undef, .slice C lc cc, .int .i64 (k : Nat), .slice C k cc, .slice (some ⟨G3, 0, none⟩) 1 1, undef, undef, .slice (some ⟨w.heap.size, 0, none⟩) k k, .slice (some ⟨G4, 0, none⟩) 1 1, undef, undef, undef, undef, undef], defers := [] } U) := Lib.hid (by
        intro U G1 G2 G3 G4 hH PA3 PA4
        refine wpAnyH_ready (rs := [3, 8]) (by rw [HO.out]; decide +kernel) (by simp) (AllReadyH.cons (by rw [HO.out]; rfl) (fun K1 hK => ?_) (AllReadyH.cons (by rw [HO.out]; rfl) (fun K1 hK => ?_) AllReadyH.nil))
        · go_simp
          have PA1 := pts_one (OK1.out U hH)
          unfold Pt.v at PA1
          dsimp only at PA1
          have bq := (Below.refl U.heap.size U).alloc (Nat.le_refl _) (.cells #[.slice A k ca] 23)
          have hH2 := hH.alloc hH.size (.cells #[.slice A k ca] 23)
          refine hK.out _ _ hH2 (fun _ => ?_)
          clear hK
          try simp only [List.setIfInBounds_toArray, List.set_cons_zero, List.set_cons_succ]
          exact wpAnyH_eq (by kernel_rfl) (by kernel_rfl) (T0134.out _ U.heap.size G2 G3 G4 hH2 PA1 (PA3.below bq) (PA4.below bq))
        · go_simp
          have PA2 := pts_one (OK2.out U hH)
          unfold Pt.v at PA2
          dsimp only at PA2
          have bq := (Below.refl U.heap.size U).alloc (Nat.le_refl _) (.cells #[.slice B k cb] 23)
          have hH2 := hH.alloc hH.size (.cells #[.slice B k cb] 23)
          refine hK.out _ _ hH2 (fun _ => ?_)
          clear hK
          try simp only [List.setIfInBounds_toArray, List.set_cons_zero, List.set_cons_succ]
          exact wpAnyH_eq (by kernel_rfl) (by kernel_rfl) (T0234.out _ G1 U.heap.size G3 G4 hH2 PA2 (PA3.below bq) (PA4.below bq)))
      have T01 : Hid (∀ (U : World) (G1 G2 G3 G4 : Nat), Below wr.heap.size wr U → PtsAt U (some ⟨G1, 0, none⟩) 1 [(Pt.mk A k ca (xs.take k))] → wpAnyH Try.prog .any O q (fun U => Below wr.heap.size wr U) 14 #[true, true, true, true, false, true, true, true, false, false, false, true, true, true, false, false, false, true, false, false, false, false, false, false, false] { tmps := #[.slice A la ca, .slice B lb cb, .slice C lc cc, undef, undef, undef, .bool false, .int .i64 (k : Nat), .slice (some ⟨w.heap.size, 0, none⟩) k k, u9, .slice A la ca, .int .i64 (la : Nat), .slice B lb cb, .int .i64 (lb : Nat), .slice C lc cc, .int .i64 (lc : Nat), .int .i64 (k : Nat), .int .i64 (k : Nat), .bool (decide (20000 < (k : Int))), undef, .int .i64 (k : Nat), .slice (some ⟨w.heap.size, 0, none⟩) k k, .slice (some ⟨w.heap.size, 0, none⟩) k k, .int .i64 (k : Nat), .int .i64 (k : Nat), .bool false, u26, u27, u28, u29, u30, u31, u32, u33, u34, u35, u36, u37, u38, u39, u40, u41, u42, u43, u44, .slice A la ca, .int .i64 (k : Nat), .slice A k ca, .slice (some ⟨G1, 0, none⟩) 1 1, undef, .slice B lb cb, .int .i64 (k : Nat), .slice B k cb, undef, undef, undef, .slice C lc cc, .int .i64 (k : Nat), .slice C k cc, undef, undef, undef, .slice (some ⟨w.heap.size, 0, none⟩) k k, undef, undef, undef, undef, undef, undef], defers := [] } U) := Lib.hid (by
        intro U G1 G2 G3 G4 hH PA1
        refine wpAnyH_ready (rs := [4, 8, 14, 18]) (by rw [HO.out]; decide +kernel) (by simp) (AllReadyH.cons (by rw [HO.out]; rfl) (fun K1 hK => ?_) (AllReadyH.cons (by rw [HO.out]; rfl) (fun K1 hK => ?_) (AllReadyH.cons (by rw [HO.out]; rfl) (fun K1 hK => ?_) (AllReadyH.cons (by rw [HO.out]; rfl) (fun K1 hK => ?_) AllReadyH.nil))))
        · go_simp
          refine (S1.out U G1 PA1).mono ?_; rintro e0 W1 ⟨rfl, bq⟩
          have hH2 := hH.trans (bq.mono hH.size)
          refine hK.out _ _ hH2 (fun _ => ?_)
          clear hK
          try simp only [List.setIfInBounds_toArray, List.set_cons_zero, List.set_cons_succ]
          exact wpAnyH_eq (by kernel_rfl) (by kernel_rfl) (T1.out _ G1 G2 G3 G4 hH2 )
        · go_simp
          have PA2 := pts_one (OK2.out U hH)
          unfold Pt.v at PA2
          dsimp only at PA2
          have bq := (Below.refl U.heap.size U).alloc (Nat.le_refl _) (.cells #[.slice B k cb] 23)
          have hH2 := hH.alloc hH.size (.cells #[.slice B k cb] 23)
          refine hK.out _ _ hH2 (fun _ => ?_)
          clear hK
          try simp only [List.setIfInBounds_toArray, List.set_cons_zero, List.set_cons_succ]
          exact wpAnyH_eq (by kernel_rfl) (by kernel_rfl) (T012.out _ G1 U.heap.size G3 G4 hH2 (PA1.below bq) PA2)
        · go_simp
          have PA3 := pts_one (OK3.out U hH)
          unfold Pt.v at PA3
          dsimp only at PA3
          have bq := (Below.refl U.heap.size U).alloc (Nat.le_refl _) (.cells #[.slice C k cc] 23)
          have hH2 := hH.alloc hH.size (.cells #[.slice C k cc] 23)
          refine hK.out _ _ hH2 (fun _ => ?_)
          clear hK
          try simp only [List.setIfInBounds_toArray, List.set_cons_zero, List.set_cons_succ]
          exact wpAnyH_eq (by kernel_rfl) (by kernel_rfl) (T013.out _ G1 G2 U.heap.size G4 hH2 (PA1.below bq) PA3)
        · go_simp
          have PA4 := pts_one (OK4.out U hH)
          unfold Pt.v at PA4
          dsimp only at PA4
          have bq := (Below.refl U.heap.size U).alloc (Nat.le_refl _) (.cells #[.slice (some ⟨w.heap.size, 0, none⟩) k k] 23)
          have hH2 := hH.alloc hH.size (.cells #[.slice (some ⟨w.heap.size, 0, none⟩) k k] 23)
          refine hK.out _ _ hH2 (fun _ => ?_)
          clear hK
          try simp only [List.setIfInBounds_toArray, List.set_cons_zero, List.set_cons_succ]
          exact wpAnyH_eq (by kernel_rfl) (by kernel_rfl) (T014.out _ G1 G2 G3 U.heap.size hH2 (PA1.below bq) PA4))
      have T02 : Hid (∀ (U : World) (G1 G2 G3 G4 : Nat), Below wr.heap.size wr U → PtsAt U (some ⟨G2, 0, none⟩) 1 [(Pt.mk B k cb (ys.take k))] → wpAnyH Try.prog .any O q (fun U => Below wr.heap.size wr U) 14 #[true, true, true, false, false, true, true, true, true, false, false, true, true, true, false, false, false, true, false, false, false, false, false, false, false] { tmps := #[.slice A la ca, .slice B lb cb, .slice C lc cc, undef, undef, undef, .bool false, .int .i64 (k : Nat), .slice (some ⟨w.heap.size, 0, none⟩) k k, u9, .slice A la ca, .int .i64 (la : Nat), .slice B lb cb, .int .i64 (lb : Nat), .slice C lc cc, .int .i64 (lc : Nat), .int .i64 (k : Nat), .int .i64 (k : Nat), .bool (decide (20000 < (k : Int))), undef, .int .i64 (k : Nat), .slice (some ⟨w.heap.size, 0, none⟩) k k, .slice (some ⟨w.heap.size, 0, none⟩) k k, .int .i64 (k : Nat), .int .i64 (k : Nat), .bool false, u26, u27, u28, u29, u30, u31, u32, u33, u34, u35, u36, u37, u38, u39, u40, u41, u42, u43, u44, .slice A la ca, .int .i64 (k : Nat), .slice A k ca, undef, undef, .slice B lb cb, .int .i64 (k : Nat), .slice B k cb, .slice (some ⟨G2, 0, none⟩) 1 1, undef, undef, .slice C lc cc, .int .i64 (k : Nat), .slice C k cc, undef, undef, undef, .slice (some ⟨w.heap.size, 0, none⟩) k k, undef, undef, undef, undef, undef, undef], defers := [] } U) := Lib.hid (by
        intro U G1 G2 G3 G4 hH PA2
        refine wpAnyH_ready (rs := [3, 14, 18]) (by rw [HO.out]; decide +kernel) (by simp) (AllReadyH.cons (by rw [HO.out]; rfl) (fun K1 hK => ?_) (AllReadyH.cons (by rw [HO.out]; rfl) (fun K1 hK => ?_) (AllReadyH.cons (by rw [HO.out]; rfl) (fun K1 hK => ?_) AllReadyH.nil)))
        · go_simp
          have PA1 := pts_one (OK1.out U hH)
          unfold Pt.v at PA1
          dsimp only at PA1
          have bq := (Below.refl U.heap.size U).alloc (Nat.le_refl _) (.cells #[.slice A k ca] 23)
          have hH2 := hH.alloc hH.size (.cells #[.slice A k ca] 23)
          refine hK.out _ _ hH2 (fun _ => ?_)
          clear hK
          try simp only [List.setIfInBounds_toArray, List.set_cons_zero, List.set_cons_succ]
          exact wpAnyH_eq (by kernel_rfl) (by kernel_rfl) (T012.out _ U.heap.size G2 G3 G4 hH2 PA1 (PA2.below bq))
        · go_simp
          have PA3 := pts_one (OK3.out U hH)
          unfold Pt.v at PA3
          dsimp only at PA3
          have bq := (Below.refl U.heap.size U).alloc (Nat.le_refl _) (.cells #[.slice C k cc] 23)
          have hH2 := hH.alloc hH.size (.cells #[.slice C k cc] 23)
          refine hK.out _ _ hH2 (fun _ => ?_)
          clear hK
          try simp only [List.setIfInBounds_toArray, List.set_cons_zero, List.set_cons_succ]
          exact wpAnyH_eq (by kernel_rfl) (by kernel_rfl) (T023.out _ G1 G2 U.heap.size G4 hH2 (PA2.below bq) PA3)
        · go_simp
          have PA4 := pts_one (OK4.out U hH)
          unfold Pt.v at PA4
          dsimp only at PA4
          have bq := (Below.refl U.heap.size U).alloc (Nat.le_refl _) (.cells #[.slice (some ⟨w.heap.size, 0, none⟩) k k] 23)
          have hH2 := hH.alloc hH.size (.cells #[.slice (some ⟨w.heap.size, 0, none⟩) k k] 23)
          refine hK.out _ _ hH2 (fun _ => ?_)
          clear hK
          try simp only [List.setIfInBounds_toArray, List.set_cons_zero, List.set_cons_succ]
          exact wpAnyH_eq (by kernel_rfl) (by kernel_rfl) (T024.out _ G1 G2 G3 U.heap.size hH2 (PA2.below bq) PA4))
      have T03 : Hid (∀ (U : World) (G1 G2 G3 G4 : Nat), Below wr.heap.size wr U → PtsAt U (some ⟨G3, 0, none⟩) 1 [(Pt.mk C k cc (zs.take k))] → wpAnyH Try.prog .any O q (fun U => Below wr.heap.size wr U) 14 #[true, true, true, false, false, true, true, true, false, false, false, true, true, true, true, false, false, true, false, false, false, false, false, false, false] { tmps := #[.slice A la ca, .slice B lb cb, .slice C lc cc, undef, undef, undef, .bool false, .int .i64 (k : Nat), .slice (some ⟨w.heap.size, 0, none⟩) k k, u9, .slice A la ca, .int .i64 (la : Nat), .slice B lb cb, .int .i64 (lb : Nat), .slice C lc cc, .int .i64 (lc : Nat), .int .i64 (k : Nat), .int .i64 (k : Nat), .bool (decide (20000 < (k : Int))), undef, .int .i64 (k : Nat), .slice (some ⟨w.heap.size, 0, none⟩) k k, .slice (some ⟨w.heap.size, 0, none⟩) k k, .int .i64 (k : Nat), .int .i64 (k : Nat), .bool false, u26, u27, u28, u29, u30, u31, u32, u33, u34, u35, u36, u37, u38, u39, u40, u41, u42, u43, u44, .slice A la ca, .int .i64 (k : Nat), .slice A k ca, undef, undef, .slice B lb cb, .int .i64 (k : Nat), .slice B k cb, undef, undef, undef, .slice C lc cc, .int .i64 (k : Nat), .slice C k cc, .slice (some ⟨G3, 0, none⟩) 1 1, undef, undef, .slice (some ⟨w.heap.size, 0, none⟩) k k, undef, undef, undef, undef, undef, undef], defers := [] } U) := Lib.hid (by
        intro U G1 G2 G3 G4 hH PA3
        refine wpAnyH_ready (rs := [3, 8, 18]) (by rw [HO.out]; decide +kernel) (by simp) (AllReadyH.cons (by rw [HO.out]; rfl) (fun K1 hK => ?_) (AllReadyH.cons (by rw [HO.out]; rfl) (fun K1 hK => ?_) (AllReadyH.cons (by rw [HO.out]; rfl) (fun K1 hK => ?_) AllReadyH.nil)))
        · go_simp
          have PA1 := pts_one (OK1.out U hH)
          unfold Pt.v at PA1
          dsimp only at PA1
          have bq := (Below.refl U.heap.size U).alloc (Nat.le_refl _) (.cells #[.slice A k ca] 23)
          have hH2 := hH.alloc hH.size (.cells #[.slice A k ca] 23)
          refine hK.out _ _ hH2 (fun _ => ?_)
          clear hK
          try simp only [List.setIfInBounds_toArray, List.set_cons_zero, List.set_cons_succ]
          exact wpAnyH_eq (by kernel_rfl) (by kernel_rfl) (T013.out _ U.heap.size G2 G3 G4 hH2 PA1 (PA3.below bq))
        · go_simp
          have PA2 := pts_one (OK2.out U hH)
          unfold Pt.v at PA2
          dsimp only at PA2
          have bq := (Below.refl U.heap.size U).alloc (Nat.le_refl _) (.cells #[.slice B k cb] 23)
          have hH2 := hH.alloc hH.size (.cells #[.slice B k cb] 23)
          refine hK.out _ _ hH2 (fun _ => ?_)
          clear hK
          try simp only [List.setIfInBounds_toArray, List.set_cons_zero, List.set_cons_succ]
          exact wpAnyH_eq (by kernel_rfl) (by kernel_rfl) (T023.out _ G1 U.heap.size G3 G4 hH2 PA2 (PA3.below bq))
        · go_simp
          have PA4 := pts_one (OK4.out U hH)
          unfold Pt.v at PA4
          dsimp only at PA4
          have bq := (Below.refl U.heap.size U).alloc (Nat.le_refl _) (.cells #[.slice (some ⟨w.heap.size, 0, none⟩) k k] 23)
          have hH2 := hH.alloc hH.size (.cells #[.slice (some ⟨w.heap.size, 0, none⟩) k k] 23)
          refine hK.out _ _ hH2 (fun _ => ?_)
          clear hK
          try simp only [List.setIfInBounds_toArray, List.set_cons_zero, List.set_cons_succ]
          exact wpAnyH_eq (by kernel_rfl) (by kernel_rfl) (T034.out _ G1 G2 G3 U.heap.size hH2 (PA3.below bq) PA4))
      have T04 : Hid (∀ (U : World) (G1 G2 G3 G4 : Nat), Below wr.heap.size wr U → PtsAt U (some ⟨G4, 0, none⟩) 1 [(Pt.mk (some ⟨w.heap.size, 0, none⟩) k k ds)] → wpAnyH Try.prog .any O q (fun U => Below wr.heap.size wr U) 14 #[true, true, true, false, false, true, true, true, false, false, false, true, true, true, false, false, false, true, true, false, false, false, false, false, false] { tmps := #[.slice A la ca, .slice B lb cb, .slice C lc cc, undef, undef, undef, .bool false, .int .i64 (k : Nat), .slice (some ⟨w.heap.size, 0, none⟩) k k, u9, .slice A la ca, .int .i64 (la : Nat), .slice B lb cb, .int .i64 (lb : Nat), .slice C lc cc, .int .i64 (lc : Nat), .int .i64 (k : Nat), .int .i64 (k : Nat), .bool (decide (20000 < (k : Int))), undef, .int .i64 (k : Nat), .slice (some ⟨w.heap.size, 0, none⟩) k k, .slice (some ⟨w.heap.size, 0, none⟩) k k, .int .i64 (k : Nat), .int .i64 (k : Nat), .bool false, u26, u27, u28, u29, u30, u31, u32, u33, u34, u35, u36, u37, u38, u39, u40, u41, u42, u43, u44, .slice A la ca, .int .i64 (k : Nat), .slice A k ca, undef, undef, .slice B lb cb, .int .i64 (k : Nat), .slice B k cb, undef, undef, undef, .slice C lc cc, .int .i64 (k : Nat), .slice C k cc, undef, undef, undef, .slice (some ⟨w.heap.size, 0, none⟩) k k, .slice (some ⟨G4, 0, none⟩) 1 1, undef, undef, undef, undef, undef], defers := [] } U) := Lib.hid (by
        intro U G1 G2 G3 G4 hH PA4
        refine wpAnyH_ready (rs := [3, 8, 14]) (by rw [HO.out]; decide +kernel) (by simp) (AllReadyH.cons (by rw [HO.out]; rfl) (fun K1 hK => ?_) (AllReadyH.cons (by rw [HO.out]; rfl) (fun K1 hK => ?_) (AllReadyH.cons (by rw [HO.out]; rfl) (fun K1 hK => ?_) AllReadyH.nil)))
        · go_simp
          have PA1 := pts_one (OK1.out U hH)
          unfold Pt.v at PA1
          dsimp only at PA1
          have bq := (Below.refl U.heap.size U).alloc (Nat.le_refl _) (.cells #[.slice A k ca] 23)
          have hH2 := hH.alloc hH.size (.cells #[.slice A k ca] 23)
          refine hK.out _ _ hH2 (fun _ => ?_)
          clear hK
          try simp only [List.setIfInBounds_toArray, List.set_cons_zero, List.set_cons_succ]
          exact wpAnyH_eq (by kernel_rfl) (by kernel_rfl) (T014.out _ U.heap.size G2 G3 G4 hH2 PA1 (PA4.below bq))
        · go_simp
          have PA2 := pts_one (OK2.out U hH)
          unfold Pt.v at PA2
          dsimp only at PA2
          have bq := (Below.refl U.heap.size U).alloc (Nat.le_refl _) (.cells #[.slice B k cb] 23)
          have hH2 := hH.alloc hH.size (.cells #[.slice B k cb] 23)
          refine hK.out _ _ hH2 (fun _ => ?_)
          clear hK
          try simp only [List.setIfInBounds_toArray, List.set_cons_zero, List.set_cons_succ]
          exact wpAnyH_eq (by kernel_rfl) (by kernel_rfl) (T024.out _ G1 U.heap.size G3 G4 hH2 PA2 (PA4.below bq))
        · go_simp
          have PA3 := pts_one (OK3.out U hH)
          unfold Pt.v at PA3
          dsimp only at PA3
          have bq := (Below.refl U.heap.size U).alloc (Nat.le_refl _) (.cells #[.slice C k cc] 23)
          have hH2 := hH.alloc hH.size (.cells #[.slice C k cc] 23)
          refine hK.out _ _ hH2 (fun _ => ?_)
          clear hK
          try simp only [List.setIfInBounds_toArray, List.set_cons_zero, List.set_cons_succ]
          exact wpAnyH_eq (by kernel_rfl) (by kernel_rfl) (T034.out _ G1 G2 U.heap.size G4 hH2 PA3 (PA4.below bq)))
      have T0 : Hid (∀ (U : World) (G1 G2 G3 G4 : Nat), Below wr.heap.size wr U → wpAnyH Try.prog .any O q (fun U => Below wr.heap.size wr U) 15 #[true, true, true, false, false, true, true, true, false, false, false, true, true, true, false, false, false, true, false, false, false, false, false, false, false] { tmps := #[.slice A la ca, .slice B lb cb, .slice C lc cc, undef, undef, undef, .bool false, .int .i64 (k : Nat), .slice (some ⟨w.heap.size, 0, none⟩) k k, u9, .slice A la ca, .int .i64 (la : Nat), .slice B lb cb, .int .i64 (lb : Nat), .slice C lc cc, .int .i64 (lc : Nat), .int .i64 (k : Nat), .int .i64 (k : Nat), .bool (decide (20000 < (k : Int))), undef, .int .i64 (k : Nat), .slice (some ⟨w.heap.size, 0, none⟩) k k, .slice (some ⟨w.heap.size, 0, none⟩) k k, .int .i64 (k : Nat), .int .i64 (k : Nat), .bool false, u26, u27, u28, u29, u30, u31, u32, u33, u34, u35, u36, u37, u38, u39, u40, u41, u42, u43, u44, .slice A la ca, .int .i64 (k : Nat), .slice A k ca, undef, undef, .slice B lb cb, .int .i64 (k : Nat), .slice B k cb, undef, undef, undef, .slice C lc cc, .int .i64 (k : Nat), .slice C k cc, undef, undef, undef, .slice (some ⟨w.heap.size, 0, none⟩) k k, undef, undef, undef, undef, undef, undef], defers := [] } U) := Lib.hid (by
        intro U G1 G2 G3 G4 hH
        refine wpAnyH_ready (rs := [3, 8, 14, 18]) (by rw [HO.out]; decide +kernel) (by simp) (AllReadyH.cons (by rw [HO.out]; rfl) (fun K1 hK => ?_) (AllReadyH.cons (by rw [HO.out]; rfl) (fun K1 hK => ?_) (AllReadyH.cons (by rw [HO.out]; rfl) (fun K1 hK => ?_) (AllReadyH.cons (by rw [HO.out]; rfl) (fun K1 hK => ?_) AllReadyH.nil))))
        · go_simp
          have PA1 := pts_one (OK1.out U hH)
          unfold Pt.v at PA1
          dsimp only at PA1
          have bq := (Below.refl U.heap.size U).alloc (Nat.le_refl _) (.cells #[.slice A k ca] 23)
          have hH2 := hH.alloc hH.size (.cells #[.slice A k ca] 23)
          refine hK.out _ _ hH2 (fun _ => ?_)
          clear hK
          try simp only [List.setIfInBounds_toArray, List.set_cons_zero, List.set_cons_succ]
          exact wpAnyH_eq (by kernel_rfl) (by kernel_rfl) (T01.out _ U.heap.size G2 G3 G4 hH2 PA1)
        · go_simp
          have PA2 := pts_one (OK2.out U hH)
          unfold Pt.v at PA2
          dsimp only at PA2
          have bq := (Below.refl U.heap.size U).alloc (Nat.le_refl _) (.cells #[.slice B k cb] 23)
          have hH2 := hH.alloc hH.size (.cells #[.slice B k cb] 23)
          refine hK.out _ _ hH2 (fun _ => ?_)
          clear hK
          try simp only [List.setIfInBounds_toArray, List.set_cons_zero, List.set_cons_succ]
          exact wpAnyH_eq (by kernel_rfl) (by kernel_rfl) (T02.out _ G1 U.heap.size G3 G4 hH2 PA2)
        · go_simp
          have PA3 := pts_one (OK3.out U hH)
          unfold Pt.v at PA3
          dsimp only at PA3
          have bq := (Below.refl U.heap.size U).alloc (Nat.le_refl _) (.cells #[.slice C k cc] 23)
          have hH2 := hH.alloc hH.size (.cells #[.slice C k cc] 23)
          refine hK.out _ _ hH2 (fun _ => ?_)
          clear hK
          try simp only [List.setIfInBounds_toArray, List.set_cons_zero, List.set_cons_succ]
          exact wpAnyH_eq (by kernel_rfl) (by kernel_rfl) (T03.out _ G1 G2 U.heap.size G4 hH2 PA3)
        · go_simp
          have PA4 := pts_one (OK4.out U hH)
          unfold Pt.v at PA4
          dsimp only at PA4
          have bq := (Below.refl U.heap.size U).alloc (Nat.le_refl _) (.cells #[.slice (some ⟨w.heap.size, 0, none⟩) k k] 23)
          have hH2 := hH.alloc hH.size (.cells #[.slice (some ⟨w.heap.size, 0, none⟩) k k] 23)
          refine hK.out _ _ hH2 (fun _ => ?_)
          clear hK
          try simp only [List.setIfInBounds_toArray, List.set_cons_zero, List.set_cons_succ]
          exact wpAnyH_eq (by kernel_rfl) (by kernel_rfl) (T04.out _ G1 G2 G3 U.heap.size hH2 PA4))
      exact wpAnyH_eq (by kernel_rfl) (by kernel_rfl) (T0.out _ 0 0 0 0 hH)
end Go.Proofs.Ytknmchpikcnacaa
