/- SettleKeeps, walked (by genStp.py). -/
import Derived.Test.YtlbekdpmfjhjhaaStk
import Derived.Test.YtlbekdpmfjhjhaaTwo
namespace Go.Proofs.Ytlbekdpmfjhjhaa
open Go.RowKit
set_option linter.unusedVariables false
set_option linter.unusedSimpArgs false

theorem cashD_snoc (l : List Du) (x : Du) : cashD (l ++ [x]) = cashD l + x.ca := by
  induction l with
  | nil => simp [cashD]
  | cons y l ih => simp only [List.cons_append, cashD, ih]; omega
theorem cashS_snoc (l : List Sd) (x : Sd) : cashS (l ++ [x]) = cashS l + x.ca := by
  induction l with
  | nil => simp [cashS]
  | cons y l ih => simp only [List.cons_append, cashS, ih]; omega
theorem cashD_part : ∀ (l : List Du), (∀ x, x ∈ l → 0 ≤ x.ca ∧ x.ca ≤ 1000000000000000) → ∀ j, 0 ≤ cashD (l.take j) ∧ cashD (l.take j) ≤ cashD l ∧ cashD l ≤ 1000000000000000 * (l.length : Int)
  | [], _, j => by simp [cashD]
  | x :: l, h, 0 => by
    have := (cashD_part l (fun y hy => h y (by simp [hy])) l.length)
    rw [List.take_length] at this
    have := h x (by simp)
    simp only [List.take_zero, cashD, List.length_cons]
    omega
  | x :: l, h, j + 1 => by
    have := cashD_part l (fun y hy => h y (by simp [hy])) j
    have := h x (by simp)
    simp only [List.take_succ_cons, cashD, List.length_cons]
    omega
theorem cashS_part : ∀ (l : List Sd), (∀ x, x ∈ l → 0 ≤ x.ca) → ∀ j, 0 ≤ cashS (l.take j) ∧ cashS (l.take j) ≤ cashS l
  | [], _, j => by simp [cashS]
  | x :: l, h, 0 => by
    have := (cashS_part l (fun y hy => h y (by simp [hy])) l.length)
    rw [List.take_length] at this
    have := h x (by simp)
    simp only [List.take_zero, cashS]
    omega
  | x :: l, h, j + 1 => by
    have := cashS_part l (fun y hy => h y (by simp [hy])) j
    have := h x (by simp)
    simp only [List.take_succ_cons, cashS]
    omega
theorem take_snoc13 {α : Type} {l : List α} {j : Nat} {x : α} (hx : l[j]? = some x) : l.take (j + 1) = l.take j ++ [x] := by
  have hj := (List.getElem?_eq_some_iff.1 hx).1
  rw [List.take_succ_eq_append_getElem hj]
  rw [List.getElem?_eq_getElem hj] at hx
  cases hx; rfl
theorem May.ca0 {f : Int} {l : List Du} (h : May f l) : ∀ x, x ∈ outS f l → 0 ≤ x.ca := fun x hx => by
  obtain ⟨t, ht⟩ := List.getElem?_of_mem hx
  have hl : t < l.length := by have := (List.getElem?_eq_some_iff.1 ht).1; rwa [out_len] at this
  obtain ⟨c, e, _, _, h0, _⟩ := h.kept (List.getElem?_eq_getElem hl)
  rw [ht] at e
  cases e
  exact h0
/-- All sums on the way are small. -/
theorem May.sums {f : Int} {l : List Du} (h : May f l) (j : Nat) : (0 ≤ cashD (l.take j) ∧ cashD (l.take j) ≤ 64000000000000000) ∧ (0 ≤ cashS ((outS f l).take j) ∧ fundS f l + cashS ((outS f l).take j) ≤ 65000000000000000) := by
  have a := cashD_part l (fun x hx => (h.ins x hx).1) j
  have b := cashS_part (outS f l) h.ca0 j
  have c := h.whole
  have d := h.fund
  have e := h.len
  omega

set_option maxRecDepth 100000 in
set_option maxHeartbeats 16000000 in
theorem keeps13_all (K : SettleK) (f : Int) (A : Option Addr) (len cap : Nat) (l : List Du) (w : World) (hf : I64 f) (hr : ED.Rd w A len l) (hk : ∀ d, d ∈ l → d.ok) (hl : len ≤ maxLen) : Calls Try.prog 4 #[.int .i64 f, .slice A len cap] w fun e w' => e = .returned (.bool true) ∧ Below w.heap.size w w' := by
  have hzd : ∀ W, (zeroValue 30).run Try.prog W = .ok (.agg (ED.cells zeroDu).toArray) W := fun W => by kernel_rfl
  have hzs : ∀ W, (zeroValue 34).run Try.prog W = .ok (.agg (ESd.cells zeroSd).toArray) W := fun W => by kernel_rfl
  have HZD := Lib.hid hzd
  have HZS := Lib.hid hzs
  have HR := Lib.hid fun (W : World) (q : Below w.heap.size w W) => (show ED.Rd W A len l from grd_below hr q (Nat.le_refl _))
  have KN := Lib.hid fun W => known13 K W
  have NL := Lib.hid hr.1
  have SE := Lib.hid (K.settle f A len cap l w hf hr hk hl)
  unfold maxLen at hl
  clear K hr hk hzd hzs
  by_cases he : errS f l = 0
  case neg =>
    obtain ⟨E, hE⟩ : ∃ E, errS f l = E := ⟨_, rfl⟩
    rw [hE] at he
    have d5 : (E != 0) = true := by simp [he]
    go_enter Try.func4, Try.ntmps4
    go_wp2_with fail
    refine SE.out.mono ?_; rintro e w1 t1
    obtain ⟨A1, k1, rfl, q1⟩ := told_bad t1 hE he
    have Q1 := Lib.hid q1
    clear q1 t1 hE he
    go_wp2_with fail
    refine (KN.out _).mono ?_; rintro e w8 ⟨rfl, q8⟩
    have Q8 := Lib.hid (Q1.out.trans (q8.mono Q1.out.size))
    clear q8
    go_wp2_with fail
    go_ret
    exact ⟨rfl, Q8.out⟩
  have M := Lib.hid (may_of he)
  have HE := Lib.hid he
  have B0 := M.out.fund2
  have B1 := M.out.fund
  have SM := Lib.hid M.out.sums
  have WH := Lib.hid M.out.whole
  obtain ⟨F, hF⟩ : ∃ x, fundS f l = x := ⟨_, rfl⟩
  have HF := Lib.hid hF
  rw [hF] at B0 WH SM
  obtain ⟨f0, f1, -⟩ := B0
  obtain ⟨f2, f3⟩ := B1
  have d1 : decide (F < 0) = false := decide_eq_false (by omega)
  have d2 : decide (f < F) = false := decide_eq_false (by omega)
  clear he hF
  go_enter Try.func4, Try.ntmps4
  go_wp2_with fail
  refine SE.out.mono ?_; rintro e w1 t1
  obtain ⟨A1, k1, rfl, r1, q1⟩ := told_ok t1 HE.out NL.out
  rw [HF.out]
  have R1 := Lib.hid fun (W : World) (q : Below w1.heap.size w1 W) => (show ESd.Rd W A1 len (outS f l) from grd_below r1 q (Nat.le_refl _))
  have Q1 := Lib.hid q1
  clear r1 q1 t1 SE
  go_wp2_with fail
  go_loopw [8, 9, 50] (fun s t i wr => ∃ j : Nat, j ≤ len ∧ s = .int .i64 (f + cashD (l.take j)) ∧ t = .int .i64 (F + cashS ((outS f l).take j)) ∧ i = .int .i64 j ∧ Below w1.heap.size w1 wr) (fun _ _ i _ => len - (intOf i).toNat)
  case atStart => exact ⟨0, Nat.zero_le _, by simp [cashD], by simp [cashS], rfl, Below.refl _ _⟩
  case round =>
    obtain ⟨j, hj, rfl, rfl, rfl, hB⟩ := hrel
    have HB := Lib.hid hB
    clear hB
    by_cases hlt : j < len
    case neg =>
      obtain rfl : j = len := by omega
      have t1 : l.take j = l := List.take_of_length_le (by rw [NL.out]; exact Nat.le_refl _)
      have t2 : (outS f l).take j = outS f l := List.take_of_length_le (by rw [out_len, NL.out]; exact Nat.le_refl _)
      rw [t1, t2, WH.out]
      obtain ⟨z, hz⟩ : ∃ z, F + cashS (outS f l) = z := ⟨_, rfl⟩
      rw [hz]
      clear t1 t2 hz WH SM M HE HR R1
      go_wp2_with fail
      refine (KN.out _).mono ?_; rintro e w8 ⟨rfl, q8⟩
      have Q8 := Lib.hid ((Q1.out.trans (HB.out.mono Q1.out.size)).trans (q8.mono (Q1.out.trans (HB.out.mono Q1.out.size)).size))
      clear q8
      go_wp2_with fail
      go_ret
      exact ⟨rfl, Q8.out⟩
    case pos =>
      have hj' : (j : Int) < (len : Int) := by omega
      have hd : decide ((j : Int) < (len : Int)) = true := decide_eq_true hj'
      have hll : j < l.length := by rw [NL.out]; exact hlt
      obtain ⟨d, hld⟩ : ∃ d, l[j]? = some d := ⟨_, List.getElem?_eq_getElem hll⟩
      obtain ⟨c, ho, g0, g1, g2, g3, g4, g5⟩ := M.out.kept hld
      have IN := M.out.ins d (List.mem_of_getElem? hld)
      obtain ⟨⟨s1, s2⟩, s3, s4⟩ := SM.out j
      obtain ⟨⟨u1, u2⟩, u3, u4⟩ := SM.out (j + 1)
      have S1 := Lib.hid (congrArg cashD (take_snoc13 hld))
      have S2 := Lib.hid (congrArg cashS (take_snoc13 ho))
      rw [cashD_snoc] at S1
      rw [cashS_snoc] at S2
      rw [S1.out] at u1 u2
      rw [S2.out] at u3 u4
      obtain ⟨P, hP⟩ : ∃ x, cashD (l.take j) = x := ⟨_, rfl⟩
      obtain ⟨P', hP'⟩ : ∃ x, cashS ((outS f l).take j) = x := ⟨_, rfl⟩
      rw [hP] at s1 s2 u1 u2 S1
      rw [hP'] at s3 s4 u3 u4 S2
      rw [hP, hP']
      obtain ⟨y, hy⟩ : ∃ y, (less (sd0 d) c).ca = y := ⟨_, rfl⟩
      obtain ⟨B, hb⟩ : ∃ B, decide (d.ca + d.v < 0) = B := ⟨_, rfl⟩
      have hx : less (sd0 d) c = ⟨d.ac, y, B, c⟩ := by
        rw [← hb, ← hy]; rfl
      rw [hy] at g2 g3 g4 u3 u4 S2
      rw [hx] at ho
      rw [HF.out] at g5
      obtain ⟨b1, o1, rfl, r1⟩ := rng_fr13 (R1.out w1 (Below.refl _ _)) ho
      obtain ⟨b3, o3, rfl, r3⟩ := rng_fr13 (HR.out w1 Q1.out) hld
      have L1 := Lib.hid fun (W : World) (q : Below w1.heap.size w1 W) => (show W.rangeAt b1 (o1 + j * 4) (ESd.cells ⟨d.ac, y, B, c⟩) from r1 W (Fr.below q))
      have L3 := Lib.hid fun (W : World) (q : Below w1.heap.size w1 W) => (show W.rangeAt b3 (o3 + j * 3) (ED.cells d) from r3 W (Fr.below q))
      have WT : wt d = if d.v < 0 then 0 else d.v := rfl
      rw [WT] at g1
      unfold In at IN
      obtain ⟨⟨i1, i2⟩, i3, i4⟩ := IN
      have e4 : decide (max d.v 0 < c) = false := decide_eq_false (by split at g1 <;> omega)
      have e2 : decide (y < 0) = false := decide_eq_false (by omega)
      have e3 : decide (c < 0) = false := decide_eq_false (by omega)
      have cw : c ≤ 100000000000000000 := by split at g1 <;> omega
      have HX : Hid ((B = true ∧ y = 0 ∧ c = 0 ∧ d.ca + d.v < 0) ∨ (B = false ∧ y = d.ca + d.v - c ∧ ¬ d.ca + d.v < 0)) := Lib.hid (by
        by_cases hn : d.ca + d.v < 0
        · left
          refine ⟨by rw [← hb]; exact decide_eq_true hn, g3 hn, ?_, hn⟩
          split at g1 <;> omega
        · right
          exact ⟨by rw [← hb]; exact decide_eq_false hn, g4 hn, hn⟩)
      have G5 := Lib.hid g5
      clear hld ho r1 r3 hP hP' hx hy hb g1 g2 g3 g4 g5 WT WH SM M HE HR R1 KN
      go_wp2_with fail
      refine wp_region_held_drew (S := fun U => Below w1.heap.size w1 U) (by kernel_rfl) (HB.out.drew) (fun hH => ?_)
      refine wpAnyH_take (i := 0) (v := .slice (some ⟨b3, o3, none⟩) len cap) rfl (by kernel_rfl) (by kernel_rfl) (by kernel_rfl) (fun _ _ _ h => h) (.inl ⟨by rfl, ?_⟩) (by assumption) ?_
      · intro W hW; go_simp
      try simp only [List.getElem_toArray, List.getElem_cons_zero, Act.put, List.setIfInBounds_toArray, List.set_cons_zero, List.set_cons_succ]
      refine wpAnyH_take (i := 1) (v := .int .i64 j) rfl (by kernel_rfl) (by kernel_rfl) (by kernel_rfl) (fun _ _ _ h => h) (.inl ⟨by rfl, ?_⟩) (by assumption) ?_
      · intro W hW; go_simp
      try simp only [List.getElem_toArray, List.getElem_cons_zero, List.getElem_cons_succ, Act.put, List.setIfInBounds_toArray, List.set_cons_zero, List.set_cons_succ]
      refine wpAnyH_take (i := 2) (v := .pointer (some ⟨b3, o3 + j * 3, none⟩)) rfl (by kernel_rfl) (by kernel_rfl) (by kernel_rfl) (fun _ _ _ h => h) (.inl ⟨by rfl, ?_⟩) (by assumption) ?_
      · intro W hW; go_simp
      try simp only [List.getElem_toArray, List.getElem_cons_zero, List.getElem_cons_succ, Act.put, List.setIfInBounds_toArray, List.set_cons_zero, List.set_cons_succ]
      refine wpAnyH_take (i := 3) (v := .agg (ED.cells d).toArray) rfl (by kernel_rfl) (by kernel_rfl) (by kernel_rfl) (fun _ _ _ h => h) (gyields_load TDu (by rfl) (.tmp 55) rfl b3 (o3 + j * 3) rfl (fun U hU => L3.out U hU)) (by assumption) ?_
      try simp only [List.getElem_toArray, List.getElem_cons_zero, List.getElem_cons_succ, Act.put, List.setIfInBounds_toArray, List.set_cons_zero, List.set_cons_succ]
      refine wpAnyH_take (i := 4) (v := .slice (some ⟨b1, o1, none⟩) len k1) rfl (by kernel_rfl) (by kernel_rfl) (by kernel_rfl) (fun _ _ _ h => h) (.inl ⟨by rfl, ?_⟩) (by assumption) ?_
      · intro W hW; go_simp
      try simp only [List.getElem_toArray, List.getElem_cons_zero, List.getElem_cons_succ, Act.put, List.setIfInBounds_toArray, List.set_cons_zero, List.set_cons_succ]
      refine wpAnyH_take (i := 5) (v := .int .i64 j) rfl (by kernel_rfl) (by kernel_rfl) (by kernel_rfl) (fun _ _ _ h => h) (.inl ⟨by rfl, ?_⟩) (by assumption) ?_
      · intro W hW; go_simp
      try simp only [List.getElem_toArray, List.getElem_cons_zero, List.getElem_cons_succ, Act.put, List.setIfInBounds_toArray, List.set_cons_zero, List.set_cons_succ]
      refine wpAnyH_take (i := 6) (v := .pointer (some ⟨b1, o1 + j * 4, none⟩)) rfl (by kernel_rfl) (by kernel_rfl) (by kernel_rfl) (fun _ _ _ h => h) (.inl ⟨by rfl, ?_⟩) (by assumption) ?_
      · intro W hW; go_simp
      try simp only [List.getElem_toArray, List.getElem_cons_zero, List.getElem_cons_succ, Act.put, List.setIfInBounds_toArray, List.set_cons_zero, List.set_cons_succ]
      refine wpAnyH_take (i := 7) (v := .agg (ESd.cells ⟨d.ac, y, B, c⟩).toArray) rfl (by kernel_rfl) (by kernel_rfl) (by kernel_rfl) (fun _ _ _ h => h) (gyields_load TSd (by rfl) (.tmp 59) rfl b1 (o1 + j * 4) rfl (fun U hU => L1.out U hU)) (by assumption) ?_
      try simp only [List.getElem_toArray, List.getElem_cons_zero, List.getElem_cons_succ, Act.put, List.setIfInBounds_toArray, List.set_cons_zero, List.set_cons_succ]
      refine wpAnyH_ready (rs := [8, 9]) (by decide +kernel) (by simp) (AllReadyH.cons rfl (fun KQ hK => ?_) (AllReadyH.cons rfl (fun KQ hK => ?_) AllReadyH.nil))
      · rw [if_pos (by rfl)]
        refine twp_alloc 30 rfl HZD.out ?_
        obtain ⟨V1, hV1⟩ : ∃ V, wr.drew.alloc (.cells (ED.cells zeroDu).toArray 30) = V := ⟨_, rfl⟩
        obtain ⟨pa, hpa⟩ : ∃ g, wr.drew.heap.size = g := ⟨_, rfl⟩
        have HS1 : Hid (One ED 30 w1.heap.size w1 V1 pa zeroDu) := Lib.hid (by rw [← hV1, ← hpa]; exact One.new hH zeroDu (Nat.le_refl _))
        rw [hV1, hpa]
        refine hK.out _ _ HS1.out.bel (fun _ => ?_)
        clear hK hV1 hpa
        try simp only [List.getElem_toArray, List.getElem_cons_zero, List.getElem_cons_succ, Act.put, List.setIfInBounds_toArray, List.set_cons_zero, List.set_cons_succ]
        refine wpAnyH_ready (rs := [9]) (by decide +kernel) (by simp) (AllReadyH.cons rfl (fun KQ hK => ?_) AllReadyH.nil)
        rw [if_pos (by rfl)]
        refine twp_alloc 34 rfl HZS.out ?_
        obtain ⟨V2, hV2⟩ : ∃ V, V1.alloc (.cells (ESd.cells zeroSd).toArray 34) = V := ⟨_, rfl⟩
        obtain ⟨pb, hpb⟩ : ∃ g, V1.heap.size = g := ⟨_, rfl⟩
        have HS2 : Hid (Both ED ESd 30 34 w1.heap.size w1 V2 pa zeroDu pb zeroSd) := Lib.hid (by rw [← hV2, ← hpb]; exact HS1.out.andR (Nat.le_refl _) zeroSd)
        rw [hV2, hpb]
        refine hK.out _ _ HS2.out.bel (fun _ => ?_)
        clear hK hV2 hpb
        try simp only [List.getElem_toArray, List.getElem_cons_zero, List.getElem_cons_succ, Act.put, List.setIfInBounds_toArray, List.set_cons_zero, List.set_cons_succ]
        refine wpAnyH_ready (rs := [10]) (by decide +kernel) (by simp) (AllReadyH.cons rfl (fun KQ hK => ?_) AllReadyH.nil)
        rw [if_pos (by rfl)]
        refine twp_store TDu (.tmp 11) (.tmp 56) rfl d pa HS2.out.fst rfl rfl ?_
        obtain ⟨V3, hV3⟩ : ∃ V, V2.setRow pa (ED.cells d).toArray = V := ⟨_, rfl⟩
        have HS3 := Lib.hid (HS2.out.setL d)
        rw [hV3] at HS3 ⊢
        refine hK.out _ _ HS3.out.bel (fun _ => ?_)
        clear hK hV3
        try simp only [List.getElem_toArray, List.getElem_cons_zero, List.getElem_cons_succ, Act.put, List.setIfInBounds_toArray, List.set_cons_zero, List.set_cons_succ]
        refine wpAnyH_ready (rs := [11]) (by decide +kernel) (by simp) (AllReadyH.cons rfl (fun KQ hK => ?_) AllReadyH.nil)
        rw [if_pos (by rfl)]
        refine twp_store TSd (.tmp 12) (.tmp 60) rfl ⟨d.ac, y, B, c⟩ pb HS3.out.snd rfl rfl ?_
        obtain ⟨V4, hV4⟩ : ∃ V, V3.setRow pb (ESd.cells ⟨d.ac, y, B, c⟩).toArray = V := ⟨_, rfl⟩
        have HS4 := Lib.hid (HS3.out.setR ⟨d.ac, y, B, c⟩)
        rw [hV4] at HS4 ⊢
        refine hK.out _ _ HS4.out.bel (fun _ => ?_)
        clear hK hV4
        try simp only [List.getElem_toArray, List.getElem_cons_zero, List.getElem_cons_succ, Act.put, List.setIfInBounds_toArray, List.set_cons_zero, List.set_cons_succ]
        refine wpAnyH_done (by decide +kernel) ?_ _
        have X := HS4.out
        have c0 := (gbx_cell X.fst 0)
        have c1 := (gbx_cell X.fst 1)
        have c2 := (gbx_cell X.fst 2)
        have k0 := (gbx_cell X.snd 0)
        have k1' := (gbx_cell X.snd 1)
        have k2 := (gbx_cell X.snd 2)
        have k3 := (gbx_cell X.snd 3)
        change _ = some (Value.int .u32 d.ac) at c0
        change _ = some (Value.int .i64 d.ca) at c1
        change _ = some (Value.int .i64 d.v) at c2
        change _ = some (Value.int .u32 d.ac) at k0
        change _ = some (Value.int .i64 y) at k1'
        change _ = some (Value.bool B) at k2
        change _ = some (Value.int .i64 c) at k3
        have HB9 := Lib.hid X.bel
        clear X hH L1 L3
        rcases HX.out with ⟨rfl, rfl, rfl, hn⟩ | ⟨rfl, rfl, hn⟩
        · have e5 : decide (d.ca + d.v < 0) = true := decide_eq_true hn
          clear HX G5
          go_wp2_with fail
          go_roundw
          case rel => exact ⟨j + 1, hlt, by rw [S1.out]; go_num, by rw [S2.out]; go_num, by go_num, HB9.out⟩
          case measure => simp [intOf]; omega
        · have e5 : decide (d.ca + d.v < 0) = false := decide_eq_false (by omega)
          by_cases hc : 0 < c
          · have e6 : decide (0 < c) = true := decide_eq_true hc
            obtain rfl : F = 0 := G5.out hc
            clear HX G5
            go_wp2_with fail
            go_roundw
            case rel => exact ⟨j + 1, hlt, by rw [S1.out]; go_num, by rw [S2.out]; go_num, by go_num, HB9.out⟩
            case measure => simp [intOf]; omega
          · have e6 : decide (0 < c) = false := decide_eq_false hc
            clear HX G5
            go_wp2_with fail
            go_roundw
            case rel => exact ⟨j + 1, hlt, by rw [S1.out]; go_num, by rw [S2.out]; go_num, by go_num, HB9.out⟩
            case measure => simp [intOf]; omega
      · rw [if_pos (by rfl)]
        refine twp_alloc 34 rfl HZS.out ?_
        obtain ⟨V5, hV5⟩ : ∃ V, wr.drew.alloc (.cells (ESd.cells zeroSd).toArray 34) = V := ⟨_, rfl⟩
        obtain ⟨pb, hpb⟩ : ∃ g, wr.drew.heap.size = g := ⟨_, rfl⟩
        have HS1 : Hid (One ESd 34 w1.heap.size w1 V5 pb zeroSd) := Lib.hid (by rw [← hV5, ← hpb]; exact One.new hH zeroSd (Nat.le_refl _))
        rw [hV5, hpb]
        refine hK.out _ _ HS1.out.bel (fun _ => ?_)
        clear hK hV5 hpb
        try simp only [List.getElem_toArray, List.getElem_cons_zero, List.getElem_cons_succ, Act.put, List.setIfInBounds_toArray, List.set_cons_zero, List.set_cons_succ]
        refine wpAnyH_ready (rs := [8]) (by decide +kernel) (by simp) (AllReadyH.cons rfl (fun KQ hK => ?_) AllReadyH.nil)
        rw [if_pos (by rfl)]
        refine twp_alloc 30 rfl HZD.out ?_
        obtain ⟨V6, hV6⟩ : ∃ V, V5.alloc (.cells (ED.cells zeroDu).toArray 30) = V := ⟨_, rfl⟩
        obtain ⟨pa, hpa⟩ : ∃ g, V5.heap.size = g := ⟨_, rfl⟩
        have HS2 : Hid (Both ED ESd 30 34 w1.heap.size w1 V6 pa zeroDu pb zeroSd) := Lib.hid (by rw [← hV6, ← hpa]; exact HS1.out.andL (Nat.le_refl _) zeroDu)
        rw [hV6, hpa]
        refine hK.out _ _ HS2.out.bel (fun _ => ?_)
        clear hK hV6 hpa
        try simp only [List.getElem_toArray, List.getElem_cons_zero, List.getElem_cons_succ, Act.put, List.setIfInBounds_toArray, List.set_cons_zero, List.set_cons_succ]
        refine wpAnyH_ready (rs := [10]) (by decide +kernel) (by simp) (AllReadyH.cons rfl (fun KQ hK => ?_) AllReadyH.nil)
        rw [if_pos (by rfl)]
        refine twp_store TDu (.tmp 11) (.tmp 56) rfl d pa HS2.out.fst rfl rfl ?_
        obtain ⟨V7, hV7⟩ : ∃ V, V6.setRow pa (ED.cells d).toArray = V := ⟨_, rfl⟩
        have HS3 := Lib.hid (HS2.out.setL d)
        rw [hV7] at HS3 ⊢
        refine hK.out _ _ HS3.out.bel (fun _ => ?_)
        clear hK hV7
        try simp only [List.getElem_toArray, List.getElem_cons_zero, List.getElem_cons_succ, Act.put, List.setIfInBounds_toArray, List.set_cons_zero, List.set_cons_succ]
        refine wpAnyH_ready (rs := [11]) (by decide +kernel) (by simp) (AllReadyH.cons rfl (fun KQ hK => ?_) AllReadyH.nil)
        rw [if_pos (by rfl)]
        refine twp_store TSd (.tmp 12) (.tmp 60) rfl ⟨d.ac, y, B, c⟩ pb HS3.out.snd rfl rfl ?_
        obtain ⟨V8, hV8⟩ : ∃ V, V7.setRow pb (ESd.cells ⟨d.ac, y, B, c⟩).toArray = V := ⟨_, rfl⟩
        have HS4 := Lib.hid (HS3.out.setR ⟨d.ac, y, B, c⟩)
        rw [hV8] at HS4 ⊢
        refine hK.out _ _ HS4.out.bel (fun _ => ?_)
        clear hK hV8
        try simp only [List.getElem_toArray, List.getElem_cons_zero, List.getElem_cons_succ, Act.put, List.setIfInBounds_toArray, List.set_cons_zero, List.set_cons_succ]
        refine wpAnyH_done (by decide +kernel) ?_ _
        have X := HS4.out
        have c0 := (gbx_cell X.fst 0)
        have c1 := (gbx_cell X.fst 1)
        have c2 := (gbx_cell X.fst 2)
        have k0 := (gbx_cell X.snd 0)
        have k1' := (gbx_cell X.snd 1)
        have k2 := (gbx_cell X.snd 2)
        have k3 := (gbx_cell X.snd 3)
        change _ = some (Value.int .u32 d.ac) at c0
        change _ = some (Value.int .i64 d.ca) at c1
        change _ = some (Value.int .i64 d.v) at c2
        change _ = some (Value.int .u32 d.ac) at k0
        change _ = some (Value.int .i64 y) at k1'
        change _ = some (Value.bool B) at k2
        change _ = some (Value.int .i64 c) at k3
        have HB9 := Lib.hid X.bel
        clear X hH L1 L3
        rcases HX.out with ⟨rfl, rfl, rfl, hn⟩ | ⟨rfl, rfl, hn⟩
        · have e5 : decide (d.ca + d.v < 0) = true := decide_eq_true hn
          clear HX G5
          go_wp2_with fail
          go_roundw
          case rel => exact ⟨j + 1, hlt, by rw [S1.out]; go_num, by rw [S2.out]; go_num, by go_num, HB9.out⟩
          case measure => simp [intOf]; omega
        · have e5 : decide (d.ca + d.v < 0) = false := decide_eq_false (by omega)
          by_cases hc : 0 < c
          · have e6 : decide (0 < c) = true := decide_eq_true hc
            obtain rfl : F = 0 := G5.out hc
            clear HX G5
            go_wp2_with fail
            go_roundw
            case rel => exact ⟨j + 1, hlt, by rw [S1.out]; go_num, by rw [S2.out]; go_num, by go_num, HB9.out⟩
            case measure => simp [intOf]; omega
          · have e6 : decide (0 < c) = false := decide_eq_false hc
            clear HX G5
            go_wp2_with fail
            go_roundw
            case rel => exact ⟨j + 1, hlt, by rw [S1.out]; go_num, by rw [S2.out]; go_num, by go_num, HB9.out⟩
            case measure => simp [intOf]; omega
end Go.Proofs.Ytlbekdpmfjhjhaa
