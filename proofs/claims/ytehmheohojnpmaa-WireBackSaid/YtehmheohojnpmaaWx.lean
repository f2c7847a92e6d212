/- The walk of the statement WirePrefix, given the writing calls. -/
import Derived.Test.YtehmheohojnpmaaWp
namespace Go.Proofs.Ytehmheohojnpmaa
open Go.RowKit

theorem wrap_bd (x : Int) : -9223372036854775808 ≤ wrap64 x ∧ wrap64 x ≤ 9223372036854775807 := by unfold wrap64; omega
theorem wrap_inj {n m : Nat} (hn : n < 18446744073709551616) (hm : m < 18446744073709551616) : wrap64 n = wrap64 m ↔ n = m := by unfold wrap64; omega
theorem ib_by (i : Int) : By (ib i) := by unfold ib; split <;> exact nb_by _
theorem tb_by {a : List Int} (h : By a) : By (tb a) := fun x hx => by
  unfold tb at hx
  rcases List.mem_append.1 hx with c | c
  · exact nb_by _ x c
  · exact h x c

set_option maxRecDepth 100000 in
set_option maxHeartbeats 8000000 in
theorem prefix_walk (K : Writes) (n m : Nat) (hn : n < 18446744073709551616) (hm : m < 18446744073709551616) (A B : Option Addr) (p q c d : Nat) (xs ys : List Int) (w : World) (h : RdB w A p xs) (h2 : RdB w B q ys) (hp : p ≤ 10000) (hq : q ≤ 10000)
    (h0 : A = none → p = 0 ∧ c = 0) (h02 : B = none → q = 0 ∧ d = 0) (hx : By xs) (hy : By ys) :
    Calls Try.prog 8 #[.int .u64 n, .int .u64 m, .slice A p c, .slice B q d] w fun e w' => e = .returned (.bool true) ∧ Below w.heap.size w w' := by
  have N1 := Lib.hid (K.nat0 n hn)
  have N2 := Lib.hid (K.nat0 m hm)
  have wb := fun (x : Nat) => wrap_bd (x : Int)
  have I1 := Lib.hid (K.int0 (wrap64 n) (wb n))
  have I2 := Lib.hid (K.int0 (wrap64 m) (wb m))
  have HA := Lib.hid h
  have HB := Lib.hid h2
  have T1 := Lib.hid (fun L U (hU : SS w L U) => K.text0 A p c xs U (h.below hU.1) (by omega) h0)
  have T2 := Lib.hid (fun L U (hU : SS w L U) => K.text0 B q d ys U (h2.below hU.1) (by omega) h02)
  have KK := Lib.hid K
  obtain ⟨β1, hβ1⟩ : ∃ β : Bool, (β = true ↔ n = m) := ⟨decide (n = m), by simp⟩
  obtain ⟨β2, hβ2⟩ : ∃ β : Bool, (β = true ↔ xs = ys) := ⟨decide (xs = ys), by simp⟩
  have HB1 := Lib.hid (hβ1.trans (beg_nb hn hm).symm)
  have HB2 := Lib.hid (hβ1.trans ((wrap_inj hn hm).symm.trans (beg_ib (wb n) (wb m)).symm))
  have HB3 := Lib.hid (hβ2.trans (beg_tb (a := xs) (b := ys) (by rw [h.1]; omega) (by rw [h2.1]; omega)).symm)
  have HE2 : Hid (decide ((n : Int) = m) = β1) := Lib.hid (by
    cases β1
    · exact decide_eq_false fun e => by have := hβ1.2 (by omega); cases this
    · exact decide_eq_true (by have := hβ1.1 rfl; omega))
  have HE1 : Hid (((n : Int) == m) = β1) := HE2.out
  have HF0 : strOfNums xs = strOfNums ys ↔ β2 = true := ⟨fun e => hβ2.2 (str_inj hx hy e), fun e => by rw [hβ2.1 e]⟩
  have HF9 : (strOfNums xs).toList = (strOfNums ys).toList ↔ β2 = true := ⟨fun e => HF0.1 (by rw [ByteArray.toList_eq, ByteArray.toList_eq] at e; exact ByteArray.ext (Array.toList_inj.1 e)), fun e => by rw [HF0.2 e]⟩
  have HF2 : Hid (decide ((strOfNums xs).toList = (strOfNums ys).toList) = β2) := Lib.hid (by
    cases β2
    · exact decide_eq_false fun e => by have := HF9.1 e; cases this
    · exact decide_eq_true (HF9.2 rfl))
  have HF3 : Hid (((strOfNums xs).toList == (strOfNums ys).toList) = β2) := Lib.hid (by
    have := HF2.out
    clear HB3 hβ2 HF0 HF9 HF2
    cases β2
    · rw [beq_eq_false_iff_ne]; exact of_decide_eq_false this
    · rw [beq_iff_eq]; exact of_decide_eq_true this)
  have HF1 : Hid (((strOfNums xs).toList = (strOfNums ys).toList) ↔ β2 = true) := Lib.hid HF9
  have HX := Lib.hid hx
  have HY := Lib.hid hy
  have Z : SS w [] w := ⟨Below.refl _ w, fun x hx => by cases hx⟩
  have HZ := Lib.hid Z
  clear K hn hm h h2 h0 h02 hx hy wb hβ1 hβ2 HF0 HF9 Z
  go_enter Try.func8, Try.ntmps8
  go_wp2_with fail
  refine (N1.out _).mono ?_; rintro e w1 ⟨A1, k1, rfl, r1, q1, -⟩
  have S1 := Lib.hid ((HZ.out.keep q1).add r1)
  clear r1 q1
  go_wp2_with fail
  refine (N2.out _).mono ?_; rintro e w2 ⟨A2, k2, rfl, r2, q2, p2⟩
  have S2 := Lib.hid ((S1.out.keep q2).add r2)
  have P2 := Lib.hid p2
  clear r2 q2 p2 S1
  go_wp2_with fail
  refine (I1.out _).mono ?_; rintro e w3 ⟨A3, k3, rfl, r3, q3, -⟩
  have S3 := Lib.hid ((S2.out.keep q3).add r3)
  clear r3 q3 S2
  go_wp2_with fail
  refine (I2.out _).mono ?_; rintro e w4 ⟨A4, k4, rfl, r4, q4, p4⟩
  have S4 := Lib.hid ((S3.out.keep q4).add r4)
  have P4 := Lib.hid p4
  clear r4 q4 p4 S3
  go_wp2_with fail
  refine (T1.out _ _ S4.out).mono ?_; rintro e w5 ⟨A5, k5, rfl, r5, q5, -⟩
  have S5 := Lib.hid ((S4.out.keep q5).add r5)
  clear r5 q5 S4
  go_wp2_with fail
  refine (T2.out _ _ S5.out).mono ?_; rintro e w6 ⟨A6, k6, rfl, r6, q6, p6⟩
  have S6 := Lib.hid ((S5.out.keep q6).add r6)
  have CP := Lib.hid (And.intro P2.out (And.intro P4.out p6))
  clear r6 q6 p6 S5 P2 P4
  go_wp2_with fail
  refine wp_region_held_drew (S := SS w [(A6, tb ys), (A5, tb xs), (A4, ib (wrap64 m)), (A3, ib (wrap64 n)), (A2, nb m), (A1, nb n)]) (by kernel_rfl) (S6.out.keep (Below.refl _ _).drew) (fun hH => ?_)
  refine wpAnyH_take (i := 0) (v := .func (.func 39) #[] #[]) rfl (by kernel_rfl) (by kernel_rfl) (by kernel_rfl) (fun _ _ _ h => h) (.inl ⟨by rfl, ?_⟩) (by assumption) ?_
  · intro W hW; go_simp
  try simp only [List.getElem_toArray, List.getElem_cons_zero, Act.put, List.setIfInBounds_toArray, List.set_cons_zero, List.set_cons_succ]
  refine wpAnyH_take (i := 1) (v := .slice A1 (nb n).length k1) rfl (by kernel_rfl) (by kernel_rfl) (by kernel_rfl) (fun _ _ _ h => h) (.inl ⟨by rfl, ?_⟩) (by assumption) ?_
  · intro W hW; go_simp
  try simp only [List.getElem_toArray, List.getElem_cons_zero, List.getElem_cons_succ, Act.put, List.setIfInBounds_toArray, List.set_cons_zero, List.set_cons_succ]
  refine wpAnyH_take (i := 2) (v := .slice A2 (nb m).length k2) rfl (by kernel_rfl) (by kernel_rfl) (by kernel_rfl) (fun _ _ _ h => h) (.inl ⟨by rfl, ?_⟩) (by assumption) ?_
  · intro W hW; go_simp
  try simp only [List.getElem_toArray, List.getElem_cons_zero, List.getElem_cons_succ, Act.put, List.setIfInBounds_toArray, List.set_cons_zero, List.set_cons_succ]
  refine wpAnyH_take (i := 4) (v := .int .u64 n) rfl (by kernel_rfl) (by kernel_rfl) (by kernel_rfl) (fun _ _ _ h => h) (.inl ⟨by rfl, ?_⟩) (by assumption) ?_
  · intro W hW; go_simp
  try simp only [List.getElem_toArray, List.getElem_cons_zero, List.getElem_cons_succ, Act.put, List.setIfInBounds_toArray, List.set_cons_zero, List.set_cons_succ]
  refine wpAnyH_take (i := 5) (v := .int .u64 m) rfl (by kernel_rfl) (by kernel_rfl) (by kernel_rfl) (fun _ _ _ h => h) (.inl ⟨by rfl, ?_⟩) (by assumption) ?_
  · intro W hW; go_simp
  try simp only [List.getElem_toArray, List.getElem_cons_zero, List.getElem_cons_succ, Act.put, List.setIfInBounds_toArray, List.set_cons_zero, List.set_cons_succ]
  refine wpAnyH_take (i := 6) (v := .bool β1) rfl (by kernel_rfl) (by kernel_rfl) (by kernel_rfl) (fun _ _ _ h => h) (.inl ⟨by rfl, ?_⟩) (by assumption) ?_
  · intro W hW; have e1 := HE1.out; have e2 := HE2.out; go_simp
  try simp only [List.getElem_toArray, List.getElem_cons_zero, List.getElem_cons_succ, Act.put, List.setIfInBounds_toArray, List.set_cons_zero, List.set_cons_succ]
  refine wpAnyH_ready (rs := [3]) (by decide +kernel) (by simp) (AllReadyH.cons rfl (fun K1 hK => ?_) AllReadyH.nil)
  go_simp
  refine (begins_any A1 A2 _ _ k1 k2 (nb n) (nb m) _ (hH.2 (A1, nb n) (by simp)) (hH.2 (A2, nb m) (by simp)) (nb_by n) (nb_by m) CP.out.1 β1 HB1.out).mono ?_; rintro e W1 ⟨rfl, q5⟩
  have hH := hH.keep q5
  refine hK.out _ _ hH (fun _ => ?_)
  clear hK q5
  try simp only [List.getElem_toArray, List.getElem_cons_zero, List.getElem_cons_succ, Act.put, List.setIfInBounds_toArray, List.set_cons_zero, List.set_cons_succ]
  refine wpAnyH_take (i := 7) (v := .bool false) rfl (by kernel_rfl) (by kernel_rfl) (by kernel_rfl) (fun _ _ _ h => h) (.inl ⟨by rfl, ?_⟩) (by assumption) ?_
  · intro W hW; go_simp
  try simp only [List.getElem_toArray, List.getElem_cons_zero, List.getElem_cons_succ, Act.put, List.setIfInBounds_toArray, List.set_cons_zero, List.set_cons_succ]
  refine wpAnyH_take (i := 8) (v := .bool false) rfl (by kernel_rfl) (by kernel_rfl) (by kernel_rfl) (fun _ _ _ h => h) (.inl ⟨by rfl, ?_⟩) (by assumption) ?_
  · intro W hW; go_simp
  try simp only [List.getElem_toArray, List.getElem_cons_zero, List.getElem_cons_succ, Act.put, List.setIfInBounds_toArray, List.set_cons_zero, List.set_cons_succ]
  refine wpAnyH_take (i := 9) (v := .func (.func 39) #[] #[]) rfl (by kernel_rfl) (by kernel_rfl) (by kernel_rfl) (fun _ _ _ h => h) (.inl ⟨by rfl, ?_⟩) (by assumption) ?_
  · intro W hW; go_simp
  try simp only [List.getElem_toArray, List.getElem_cons_zero, List.getElem_cons_succ, Act.put, List.setIfInBounds_toArray, List.set_cons_zero, List.set_cons_succ]
  refine wpAnyH_take (i := 10) (v := .slice A3 (ib (wrap64 n)).length k3) rfl (by kernel_rfl) (by kernel_rfl) (by kernel_rfl) (fun _ _ _ h => h) (.inl ⟨by rfl, ?_⟩) (by assumption) ?_
  · intro W hW; go_simp
  try simp only [List.getElem_toArray, List.getElem_cons_zero, List.getElem_cons_succ, Act.put, List.setIfInBounds_toArray, List.set_cons_zero, List.set_cons_succ]
  refine wpAnyH_take (i := 11) (v := .slice A4 (ib (wrap64 m)).length k4) rfl (by kernel_rfl) (by kernel_rfl) (by kernel_rfl) (fun _ _ _ h => h) (.inl ⟨by rfl, ?_⟩) (by assumption) ?_
  · intro W hW; go_simp
  try simp only [List.getElem_toArray, List.getElem_cons_zero, List.getElem_cons_succ, Act.put, List.setIfInBounds_toArray, List.set_cons_zero, List.set_cons_succ]
  refine wpAnyH_take (i := 13) (v := .int .u64 n) rfl (by kernel_rfl) (by kernel_rfl) (by kernel_rfl) (fun _ _ _ h => h) (.inl ⟨by rfl, ?_⟩) (by assumption) ?_
  · intro W hW; go_simp
  try simp only [List.getElem_toArray, List.getElem_cons_zero, List.getElem_cons_succ, Act.put, List.setIfInBounds_toArray, List.set_cons_zero, List.set_cons_succ]
  refine wpAnyH_take (i := 14) (v := .int .u64 m) rfl (by kernel_rfl) (by kernel_rfl) (by kernel_rfl) (fun _ _ _ h => h) (.inl ⟨by rfl, ?_⟩) (by assumption) ?_
  · intro W hW; go_simp
  try simp only [List.getElem_toArray, List.getElem_cons_zero, List.getElem_cons_succ, Act.put, List.setIfInBounds_toArray, List.set_cons_zero, List.set_cons_succ]
  refine wpAnyH_take (i := 15) (v := .bool β1) rfl (by kernel_rfl) (by kernel_rfl) (by kernel_rfl) (fun _ _ _ h => h) (.inl ⟨by rfl, ?_⟩) (by assumption) ?_
  · intro W hW; have e1 := HE1.out; have e2 := HE2.out; go_simp
  try simp only [List.getElem_toArray, List.getElem_cons_zero, List.getElem_cons_succ, Act.put, List.setIfInBounds_toArray, List.set_cons_zero, List.set_cons_succ]
  refine wpAnyH_ready (rs := [12]) (by decide +kernel) (by simp) (AllReadyH.cons rfl (fun K1 hK => ?_) AllReadyH.nil)
  go_simp
  refine (begins_any A3 A4 _ _ k3 k4 (ib (wrap64 n)) (ib (wrap64 m)) _ (hH.2 (A3, ib (wrap64 n)) (by simp)) (hH.2 (A4, ib (wrap64 m)) (by simp)) (ib_by _) (ib_by _) CP.out.2.1 β1 HB2.out).mono ?_; rintro e W1 ⟨rfl, q5⟩
  have hH := hH.keep q5
  refine hK.out _ _ hH (fun _ => ?_)
  clear hK q5
  try simp only [List.getElem_toArray, List.getElem_cons_zero, List.getElem_cons_succ, Act.put, List.setIfInBounds_toArray, List.set_cons_zero, List.set_cons_succ]
  refine wpAnyH_take (i := 16) (v := .bool false) rfl (by kernel_rfl) (by kernel_rfl) (by kernel_rfl) (fun _ _ _ h => h) (.inl ⟨by rfl, ?_⟩) (by assumption) ?_
  · intro W hW; go_simp
  try simp only [List.getElem_toArray, List.getElem_cons_zero, List.getElem_cons_succ, Act.put, List.setIfInBounds_toArray, List.set_cons_zero, List.set_cons_succ]
  refine wpAnyH_take (i := 17) (v := .bool false) rfl (by kernel_rfl) (by kernel_rfl) (by kernel_rfl) (fun _ _ _ h => h) (.inl ⟨by rfl, ?_⟩) (by assumption) ?_
  · intro W hW; go_simp
  try simp only [List.getElem_toArray, List.getElem_cons_zero, List.getElem_cons_succ, Act.put, List.setIfInBounds_toArray, List.set_cons_zero, List.set_cons_succ]
  refine wpAnyH_take (i := 18) (v := .bool false) rfl (by kernel_rfl) (by kernel_rfl) (by kernel_rfl) (fun _ _ _ h => h) (.inl ⟨by rfl, ?_⟩) (by assumption) ?_
  · intro W hW; go_simp
  try simp only [List.getElem_toArray, List.getElem_cons_zero, List.getElem_cons_succ, Act.put, List.setIfInBounds_toArray, List.set_cons_zero, List.set_cons_succ]
  refine wpAnyH_take (i := 19) (v := .func (.func 39) #[] #[]) rfl (by kernel_rfl) (by kernel_rfl) (by kernel_rfl) (fun _ _ _ h => h) (.inl ⟨by rfl, ?_⟩) (by assumption) ?_
  · intro W hW; go_simp
  try simp only [List.getElem_toArray, List.getElem_cons_zero, List.getElem_cons_succ, Act.put, List.setIfInBounds_toArray, List.set_cons_zero, List.set_cons_succ]
  refine wpAnyH_take (i := 20) (v := .slice A5 (tb xs).length k5) rfl (by kernel_rfl) (by kernel_rfl) (by kernel_rfl) (fun _ _ _ h => h) (.inl ⟨by rfl, ?_⟩) (by assumption) ?_
  · intro W hW; go_simp
  try simp only [List.getElem_toArray, List.getElem_cons_zero, List.getElem_cons_succ, Act.put, List.setIfInBounds_toArray, List.set_cons_zero, List.set_cons_succ]
  refine wpAnyH_take (i := 21) (v := .slice A6 (tb ys).length k6) rfl (by kernel_rfl) (by kernel_rfl) (by kernel_rfl) (fun _ _ _ h => h) (.inl ⟨by rfl, ?_⟩) (by assumption) ?_
  · intro W hW; go_simp
  try simp only [List.getElem_toArray, List.getElem_cons_zero, List.getElem_cons_succ, Act.put, List.setIfInBounds_toArray, List.set_cons_zero, List.set_cons_succ]
  refine wpAnyH_take (i := 23) (v := .slice A p c) rfl (by kernel_rfl) (by kernel_rfl) (by kernel_rfl) (fun _ _ _ h => h) (.inl ⟨by rfl, ?_⟩) (by assumption) ?_
  · intro W hW; go_simp
  try simp only [List.getElem_toArray, List.getElem_cons_zero, List.getElem_cons_succ, Act.put, List.setIfInBounds_toArray, List.set_cons_zero, List.set_cons_succ]
  refine wpAnyH_take (i := 24) (v := .string (strOfNums xs)) rfl (by kernel_rfl) (by kernel_rfl) (by kernel_rfl) (fun _ _ _ h => h) (.inl ⟨by rfl, ?_⟩) (by assumption) ?_
  · intro W hW; have k9 := conv_any (c := c) (HA.out.below hW.1); go_simp
  try simp only [List.getElem_toArray, List.getElem_cons_zero, List.getElem_cons_succ, Act.put, List.setIfInBounds_toArray, List.set_cons_zero, List.set_cons_succ]
  refine wpAnyH_take (i := 25) (v := .slice B q d) rfl (by kernel_rfl) (by kernel_rfl) (by kernel_rfl) (fun _ _ _ h => h) (.inl ⟨by rfl, ?_⟩) (by assumption) ?_
  · intro W hW; go_simp
  try simp only [List.getElem_toArray, List.getElem_cons_zero, List.getElem_cons_succ, Act.put, List.setIfInBounds_toArray, List.set_cons_zero, List.set_cons_succ]
  refine wpAnyH_take (i := 26) (v := .string (strOfNums ys)) rfl (by kernel_rfl) (by kernel_rfl) (by kernel_rfl) (fun _ _ _ h => h) (.inl ⟨by rfl, ?_⟩) (by assumption) ?_
  · intro W hW; have k9 := conv_any (c := d) (HB.out.below hW.1); go_simp
  try simp only [List.getElem_toArray, List.getElem_cons_zero, List.getElem_cons_succ, Act.put, List.setIfInBounds_toArray, List.set_cons_zero, List.set_cons_succ]
  refine wpAnyH_take (i := 27) (v := .bool β2) rfl (by kernel_rfl) (by kernel_rfl) (by kernel_rfl) (fun _ _ _ h => h) (.inl ⟨by rfl, ?_⟩) (by assumption) ?_
  · intro W hW; have e1 := HF1.out; have e2 := HF2.out; have e3 := HF3.out; go_simp
  try simp only [List.getElem_toArray, List.getElem_cons_zero, List.getElem_cons_succ, Act.put, List.setIfInBounds_toArray, List.set_cons_zero, List.set_cons_succ]
  refine wpAnyH_ready (rs := [22]) (by decide +kernel) (by simp) (AllReadyH.cons rfl (fun K1 hK => ?_) AllReadyH.nil)
  go_simp
  refine (begins_any A5 A6 _ _ k5 k6 (tb xs) (tb ys) _ (hH.2 (A5, tb xs) (by simp)) (hH.2 (A6, tb ys) (by simp)) (tb_by HX.out) (tb_by HY.out) CP.out.2.2 β2 HB3.out).mono ?_; rintro e W1 ⟨rfl, q5⟩
  have hH := hH.keep q5
  refine hK.out _ _ hH (fun _ => ?_)
  clear hK q5
  try simp only [List.getElem_toArray, List.getElem_cons_zero, List.getElem_cons_succ, Act.put, List.setIfInBounds_toArray, List.set_cons_zero, List.set_cons_succ]
  refine wpAnyH_take (i := 28) (v := .bool false) rfl (by kernel_rfl) (by kernel_rfl) (by kernel_rfl) (fun _ _ _ h => h) (.inl ⟨by rfl, ?_⟩) (by assumption) ?_
  · intro W hW; go_simp
  try simp only [List.getElem_toArray, List.getElem_cons_zero, List.getElem_cons_succ, Act.put, List.setIfInBounds_toArray, List.set_cons_zero, List.set_cons_succ]
  refine wpAnyH_take (i := 29) (v := .bool false) rfl (by kernel_rfl) (by kernel_rfl) (by kernel_rfl) (fun _ _ _ h => h) (.inl ⟨by rfl, ?_⟩) (by assumption) ?_
  · intro W hW; go_simp
  try simp only [List.getElem_toArray, List.getElem_cons_zero, List.getElem_cons_succ, Act.put, List.setIfInBounds_toArray, List.set_cons_zero, List.set_cons_succ]
  refine wpAnyH_done (by decide +kernel) ?_ _
  have BB := Lib.hid hH.1
  clear hH
  go_wp2_with fail
  refine (KK.out.known _).mono ?_; rintro e W9 ⟨rfl, q9⟩
  have BF := Lib.hid (BB.out.trans (q9.mono BB.out.size))
  clear q9
  go_wp2_with fail
  go_ret
  exact ⟨rfl, BF.out⟩
end Go.Proofs.Ytehmheohojnpmaa
