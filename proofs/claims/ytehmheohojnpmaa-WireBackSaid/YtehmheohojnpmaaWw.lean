/- The walk of the statement WireWrites, given the writing calls. -/
import Derived.Test.YtehmheohojnpmaaWk
namespace Go.Proofs.Ytehmheohojnpmaa
open Go.RowKit

set_option maxRecDepth 100000 in
set_option maxHeartbeats 4000000 in
theorem writes_walk (K : Writes) (k : Nat) (hk : k < 18446744073709551616) (i : Int) (hi : -9223372036854775808 ≤ i ∧ i ≤ 9223372036854775807) (f : Bool) (A B : Option Addr) (n c m d : Nat) (bs ts : List Int) (w : World) (h : RdB w A n bs) (h2 : RdB w B m ts) (hn : n ≤ 100000) (hm : m ≤ 100000)
    (h0 : A = none → n = 0 ∧ c = 0) (h02 : B = none → m = 0 ∧ d = 0) :
    Calls Try.prog 3 #[.int .u64 k, .int .i64 i, .bool f, .slice A n c, .slice B m d] w fun e w' => e = .returned (.bool true) ∧ Below w.heap.size w w' := by
  have KK := Lib.hid K
  have Q0 := Lib.hid ((Below.refl _ w).alloc (Nat.le_refl _) (.cells #[.slice A n c] 23))
  have R0 := Lib.hid (h.below Q0.out)
  have R2 := Lib.hid (h2.below Q0.out)
  have LT := Lib.hid (lent_any B m d ts (w.alloc (.cells #[.slice A n c] 23)) R2.out hm h02)
  have H0 := Lib.hid h0
  have H02 := Lib.hid h02
  have HK := Lib.hid hk
  have HI := Lib.hid hi
  have hg0 : (w.alloc (.cells #[.slice A n c] 23)).heap[w.heap.size]? = some (.cells #[.slice A n c] 23 (0, 0)) := heap_alloc_new w _
  have HG := Lib.hid hg0
  clear h h2 h0 h02 hk hi hg0 K
  go_enter Try.func3, Try.ntmps3
  go_wp2_with fail
  refine LT.out.mono ?_; rintro e w1 ⟨v, rfl, g, cap, rfl, ho, hq⟩
  have hg1 := (hq.block w.heap.size (by simp)).trans HG.out
  have c1 : w1.cell? ⟨w.heap.size, 0, none⟩ = some (.slice A n c) := by rw [cell_of_row _ _ _ _ _ _ hg1]; rfl
  have R1 := Lib.hid (R0.out.below hq)
  have T1 := Lib.hid (R2.out.below hq)
  have k1 := conv_any (c := c) R1.out
  have Q1 := Lib.hid (Q0.out.trans (hq.mono (by simp)))
  have HO := Lib.hid ho
  clear hg1 hq ho LT
  go_wp2_with fail
  have HLT := Lib.hid (show g < w1.heap.size from (HO.out.lt g rfl).2)
  have HBL := Lib.hid (show bs.length ≤ 100000 by rw [R1.out.1]; exact hn)
  have HTL := Lib.hid T1.out.1
  have CB : Hid (∀ L U, SS w1 L U → Calls Try.prog 12 #[.pointer (some ⟨w.heap.size, 0, none⟩)] U fun e W => Made U bs e W) := Lib.hid (fun L U hU =>
    copy_any A n c w.heap.size bs U ((hU.1.cell (p := ⟨w.heap.size, 0, none⟩) (World.block_lt_of_cell? w1 _ c1)).trans c1) (R1.out.below hU.1) hn H0.out)
  have TB : Hid (∀ L U, SS w1 L U → RdB U B m ts) := Lib.hid (fun L U hU => T1.out.below hU.1)
  have LB : Hid (∀ L U, SS w1 L U → RdB U (some ⟨g, 0, none⟩) m ts ∧ U.ownsRow (w.alloc (.cells #[.slice A n c] 23)).heap.size 5 1 (.slice (some ⟨g, 0, none⟩) (m + 1) cap) (m + 1) ((ts ++ [77]).map (Value.int .u8))) := Lib.hid (fun L U hU => by
    have o := HO.out.kept (row := none) ⟨hU.1.os, hU.1.tape, hU.1.output, hU.1.size, fun i hi _ => hU.1.block i hi⟩ (by simp [Value.ownBlock])
    exact ⟨(marked_rd HTL.out o).1, o⟩)
  clear k1 c1
  refine wp_region_held_drew (S := SS w1 []) (by kernel_rfl) ⟨(Below.refl _ w1).drew, fun x hx => by cases hx⟩ (fun hH => ?_)
  generalize w1.drew = W0 at hH ⊢
  refine wpAnyH_take (i := 0) (v := .func (.func 12) #[] #[.pointer (some ⟨w.heap.size, 0, none⟩)]) rfl (by kernel_rfl) (by kernel_rfl) (by kernel_rfl) (fun _ _ _ h => h) (.inl ⟨by rfl, ?_⟩) (by assumption) ?_
  · intro W hW; go_simp
  try simp only [List.getElem_toArray, List.getElem_cons_zero, Act.put, List.setIfInBounds_toArray, List.set_cons_zero, List.set_cons_succ]
  refine wpAnyH_take (i := 2) (v := .int .u64 k) rfl (by kernel_rfl) (by kernel_rfl) (by kernel_rfl) (fun _ _ _ h => h) (.inl ⟨by rfl, ?_⟩) (by assumption) ?_
  · intro W hW; go_simp
  try simp only [List.getElem_toArray, List.getElem_cons_zero, List.getElem_cons_succ, Act.put, List.setIfInBounds_toArray, List.set_cons_zero, List.set_cons_succ]
  refine wpAnyH_take (i := 5) (v := .string (strOfNums bs)) rfl (by kernel_rfl) (by kernel_rfl) (by kernel_rfl) (fun _ _ _ h => h) (.inl ⟨by rfl, ?_⟩) (by assumption) ?_
  · intro W hW; go_simp
  try simp only [List.getElem_toArray, List.getElem_cons_zero, List.getElem_cons_succ, Act.put, List.setIfInBounds_toArray, List.set_cons_zero, List.set_cons_succ]
  refine wpAnyH_take (i := 6) (v := .int .u64 k) rfl (by kernel_rfl) (by kernel_rfl) (by kernel_rfl) (fun _ _ _ h => h) (.inl ⟨by rfl, ?_⟩) (by assumption) ?_
  · intro W hW; go_simp
  try simp only [List.getElem_toArray, List.getElem_cons_zero, List.getElem_cons_succ, Act.put, List.setIfInBounds_toArray, List.set_cons_zero, List.set_cons_succ]
  refine wpAnyH_ready (rs := [1]) (by kernel_rfl) (by simp) (AllReadyH.cons rfl (fun K1 hK => ?_) AllReadyH.nil)
  go_simp
  have hU := hH
  refine (CB.out _ _ hU).mono ?_; rintro e W1 ⟨v1, rfl, hN⟩
  have hH := hU.keep hN.q
  have ow : Owns W1 _ v1 bs := ⟨hN.o, hN.q.size, by have := HBL.out; omega⟩
  refine hK.out _ _ hH (fun _ => ?_)
  clear hK
  try simp only [List.getElem_toArray, List.getElem_cons_zero, List.getElem_cons_succ, Act.put, List.setIfInBounds_toArray, List.set_cons_zero, List.set_cons_succ]
  refine wpAnyH_ready (rs := [3]) (by kernel_rfl) (by simp) (AllReadyH.cons rfl (fun K1 hK => ?_) AllReadyH.nil)
  go_simp
  refine (KK.out.nat _ v1 bs k W1 ow HK.out).mono ?_; rintro e W2 ⟨v2, rfl, o2, g2⟩
  have hH := hU.keep (hN.q.trans ((Below.refl _ W1).grown g2 hN.q.size fun k hk => (hN.o.lt k hk).1))
  obtain ⟨A2, c2, rfl, r2⟩ := owns_rd o2
  refine hK.out _ _ hH (fun _ => ?_)
  clear hK o2 g2 ow hN hU
  try simp only [List.getElem_toArray, List.getElem_cons_zero, List.getElem_cons_succ, Act.put, List.setIfInBounds_toArray, List.set_cons_zero, List.set_cons_succ]
  refine wpAnyH_more (S1 := SS w1 ((A2, bs ++ nb k) :: _)) (fun _ h => h.less) _ _ _ _ ?_
  have hH := hH.add r2
  clear r2
  refine wpAnyH_take (i := 4) (v := .string (strOfNums (bs ++ nb k))) rfl (by kernel_rfl) (by kernel_rfl) (by kernel_rfl) (fun _ _ _ h => h) (.inl ⟨by rfl, ?_⟩) (by assumption) ?_
  · intro W hW; have k2 := conv_any (c := c2) hW.head; rw [List.length_append] at k2; go_simp
  try simp only [List.getElem_toArray, List.getElem_cons_zero, List.getElem_cons_succ, Act.put, List.setIfInBounds_toArray, List.set_cons_zero, List.set_cons_succ]
  refine wpAnyH_ready (rs := [7]) (by kernel_rfl) (by simp) (AllReadyH.cons rfl (fun K1 hK => ?_) AllReadyH.nil)
  go_simp
  refine (rnat_any k HK.out W2).mono ?_; rintro e W3 ⟨v3, rfl, hN3⟩
  have hH := hH.keep hN3.q
  obtain ⟨A3, c3, rfl, r3⟩ := hN3.rd
  refine hK.out _ _ hH (fun _ => ?_)
  clear hK hN3
  try simp only [List.getElem_toArray, List.getElem_cons_zero, List.getElem_cons_succ, Act.put, List.setIfInBounds_toArray, List.set_cons_zero, List.set_cons_succ]
  refine wpAnyH_more (S1 := SS w1 ((A3, nb k) :: _)) (fun _ h => h.less) _ _ _ _ ?_
  have hH := hH.add r3
  clear r3
  refine wpAnyH_take (i := 8) (v := .string (strOfNums (nb k))) rfl (by kernel_rfl) (by kernel_rfl) (by kernel_rfl) (fun _ _ _ h => h) (.inl ⟨by rfl, ?_⟩) (by assumption) ?_
  · intro W hW; have k2 := conv_any (c := c3) hW.head; go_simp
  try simp only [List.getElem_toArray, List.getElem_cons_zero, List.getElem_cons_succ, Act.put, List.setIfInBounds_toArray, List.set_cons_zero, List.set_cons_succ]
  refine wpAnyH_take (i := 9) (v := .string (strOfNums bs ++ strOfNums (nb k))) rfl (by kernel_rfl) (by kernel_rfl) (by kernel_rfl) (fun _ _ _ h => h) (.inl ⟨by rfl, ?_⟩) (by assumption) ?_
  · intro W hW; have hs : ¬ (strOfNums bs).size + (strOfNums (nb k)).size > 9223372036854775807 := (by rw [str_len, str_len]; have h1 := nb_ten HK.out; have h2 := HBL.out; omega); go_simp
  try simp only [List.getElem_toArray, List.getElem_cons_zero, List.getElem_cons_succ, Act.put, List.setIfInBounds_toArray, List.set_cons_zero, List.set_cons_succ]
  refine wpAnyH_take (i := 10) (v := .bool true) rfl (by kernel_rfl) (by kernel_rfl) (by kernel_rfl) (fun _ _ _ h => h) (.inl ⟨by rfl, ?_⟩) (by assumption) ?_
  · intro W hW; have e9 := str_append bs (nb k); go_simp
  try simp only [List.getElem_toArray, List.getElem_cons_zero, List.getElem_cons_succ, Act.put, List.setIfInBounds_toArray, List.set_cons_zero, List.set_cons_succ]
  refine wpAnyH_take (i := 11) (v := .bool true) rfl (by kernel_rfl) (by kernel_rfl) (by kernel_rfl) (fun _ _ _ h => h) (.inl ⟨by rfl, ?_⟩) (by assumption) ?_
  · intro W hW; go_simp
  try simp only [List.getElem_toArray, List.getElem_cons_zero, List.getElem_cons_succ, Act.put, List.setIfInBounds_toArray, List.set_cons_zero, List.set_cons_succ]
  refine wpAnyH_take (i := 12) (v := .func (.func 12) #[] #[.pointer (some ⟨w.heap.size, 0, none⟩)]) rfl (by kernel_rfl) (by kernel_rfl) (by kernel_rfl) (fun _ _ _ h => h) (.inl ⟨by rfl, ?_⟩) (by assumption) ?_
  · intro W hW; go_simp
  try simp only [List.getElem_toArray, List.getElem_cons_zero, List.getElem_cons_succ, Act.put, List.setIfInBounds_toArray, List.set_cons_zero, List.set_cons_succ]
  refine wpAnyH_take (i := 14) (v := .int .i64 i) rfl (by kernel_rfl) (by kernel_rfl) (by kernel_rfl) (fun _ _ _ h => h) (.inl ⟨by rfl, ?_⟩) (by assumption) ?_
  · intro W hW; go_simp
  try simp only [List.getElem_toArray, List.getElem_cons_zero, List.getElem_cons_succ, Act.put, List.setIfInBounds_toArray, List.set_cons_zero, List.set_cons_succ]
  refine wpAnyH_take (i := 17) (v := .string (strOfNums bs)) rfl (by kernel_rfl) (by kernel_rfl) (by kernel_rfl) (fun _ _ _ h => h) (.inl ⟨by rfl, ?_⟩) (by assumption) ?_
  · intro W hW; go_simp
  try simp only [List.getElem_toArray, List.getElem_cons_zero, List.getElem_cons_succ, Act.put, List.setIfInBounds_toArray, List.set_cons_zero, List.set_cons_succ]
  refine wpAnyH_take (i := 18) (v := .int .i64 i) rfl (by kernel_rfl) (by kernel_rfl) (by kernel_rfl) (fun _ _ _ h => h) (.inl ⟨by rfl, ?_⟩) (by assumption) ?_
  · intro W hW; go_simp
  try simp only [List.getElem_toArray, List.getElem_cons_zero, List.getElem_cons_succ, Act.put, List.setIfInBounds_toArray, List.set_cons_zero, List.set_cons_succ]
  refine wpAnyH_ready (rs := [13]) (by kernel_rfl) (by simp) (AllReadyH.cons rfl (fun K1 hK => ?_) AllReadyH.nil)
  go_simp
  have hU := hH
  refine (CB.out _ _ hU).mono ?_; rintro e W1 ⟨v1, rfl, hN⟩
  have hH := hU.keep hN.q
  have ow : Owns W1 _ v1 bs := ⟨hN.o, hN.q.size, by have := HBL.out; omega⟩
  refine hK.out _ _ hH (fun _ => ?_)
  clear hK
  try simp only [List.getElem_toArray, List.getElem_cons_zero, List.getElem_cons_succ, Act.put, List.setIfInBounds_toArray, List.set_cons_zero, List.set_cons_succ]
  refine wpAnyH_ready (rs := [15]) (by kernel_rfl) (by simp) (AllReadyH.cons rfl (fun K1 hK => ?_) AllReadyH.nil)
  go_simp
  refine (KK.out.int _ v1 bs i W1 ow HI.out).mono ?_; rintro e W2 ⟨v2, rfl, o2, g2⟩
  have hH := hU.keep (hN.q.trans ((Below.refl _ W1).grown g2 hN.q.size fun k hk => (hN.o.lt k hk).1))
  obtain ⟨A2, c2, rfl, r2⟩ := owns_rd o2
  refine hK.out _ _ hH (fun _ => ?_)
  clear hK o2 g2 ow hN hU
  try simp only [List.getElem_toArray, List.getElem_cons_zero, List.getElem_cons_succ, Act.put, List.setIfInBounds_toArray, List.set_cons_zero, List.set_cons_succ]
  refine wpAnyH_more (S1 := SS w1 ((A2, bs ++ ib i) :: _)) (fun _ h => h.less) _ _ _ _ ?_
  have hH := hH.add r2
  clear r2
  refine wpAnyH_take (i := 16) (v := .string (strOfNums (bs ++ ib i))) rfl (by kernel_rfl) (by kernel_rfl) (by kernel_rfl) (fun _ _ _ h => h) (.inl ⟨by rfl, ?_⟩) (by assumption) ?_
  · intro W hW; have k2 := conv_any (c := c2) hW.head; rw [List.length_append] at k2; go_simp
  try simp only [List.getElem_toArray, List.getElem_cons_zero, List.getElem_cons_succ, Act.put, List.setIfInBounds_toArray, List.set_cons_zero, List.set_cons_succ]
  refine wpAnyH_ready (rs := [19]) (by kernel_rfl) (by simp) (AllReadyH.cons rfl (fun K1 hK => ?_) AllReadyH.nil)
  go_simp
  refine (rint_any i HI.out W2).mono ?_; rintro e W3 ⟨v3, rfl, hN3⟩
  have hH := hH.keep hN3.q
  obtain ⟨A3, c3, rfl, r3⟩ := hN3.rd
  refine hK.out _ _ hH (fun _ => ?_)
  clear hK hN3
  try simp only [List.getElem_toArray, List.getElem_cons_zero, List.getElem_cons_succ, Act.put, List.setIfInBounds_toArray, List.set_cons_zero, List.set_cons_succ]
  refine wpAnyH_more (S1 := SS w1 ((A3, ib i) :: _)) (fun _ h => h.less) _ _ _ _ ?_
  have hH := hH.add r3
  clear r3
  refine wpAnyH_take (i := 20) (v := .string (strOfNums (ib i))) rfl (by kernel_rfl) (by kernel_rfl) (by kernel_rfl) (fun _ _ _ h => h) (.inl ⟨by rfl, ?_⟩) (by assumption) ?_
  · intro W hW; have k2 := conv_any (c := c3) hW.head; go_simp
  try simp only [List.getElem_toArray, List.getElem_cons_zero, List.getElem_cons_succ, Act.put, List.setIfInBounds_toArray, List.set_cons_zero, List.set_cons_succ]
  refine wpAnyH_take (i := 21) (v := .string (strOfNums bs ++ strOfNums (ib i))) rfl (by kernel_rfl) (by kernel_rfl) (by kernel_rfl) (fun _ _ _ h => h) (.inl ⟨by rfl, ?_⟩) (by assumption) ?_
  · intro W hW; have hs : ¬ (strOfNums bs).size + (strOfNums (ib i)).size > 9223372036854775807 := (by rw [str_len, str_len]; have h1 := ib_ten HI.out; have h2 := HBL.out; omega); go_simp
  try simp only [List.getElem_toArray, List.getElem_cons_zero, List.getElem_cons_succ, Act.put, List.setIfInBounds_toArray, List.set_cons_zero, List.set_cons_succ]
  refine wpAnyH_take (i := 22) (v := .bool true) rfl (by kernel_rfl) (by kernel_rfl) (by kernel_rfl) (fun _ _ _ h => h) (.inl ⟨by rfl, ?_⟩) (by assumption) ?_
  · intro W hW; have e9 := str_append bs (ib i); go_simp
  try simp only [List.getElem_toArray, List.getElem_cons_zero, List.getElem_cons_succ, Act.put, List.setIfInBounds_toArray, List.set_cons_zero, List.set_cons_succ]
  refine wpAnyH_take (i := 23) (v := .bool true) rfl (by kernel_rfl) (by kernel_rfl) (by kernel_rfl) (fun _ _ _ h => h) (.inl ⟨by rfl, ?_⟩) (by assumption) ?_
  · intro W hW; go_simp
  try simp only [List.getElem_toArray, List.getElem_cons_zero, List.getElem_cons_succ, Act.put, List.setIfInBounds_toArray, List.set_cons_zero, List.set_cons_succ]
  refine wpAnyH_take (i := 24) (v := .bool true) rfl (by kernel_rfl) (by kernel_rfl) (by kernel_rfl) (fun _ _ _ h => h) (.inl ⟨by rfl, ?_⟩) (by assumption) ?_
  · intro W hW; go_simp
  try simp only [List.getElem_toArray, List.getElem_cons_zero, List.getElem_cons_succ, Act.put, List.setIfInBounds_toArray, List.set_cons_zero, List.set_cons_succ]
  refine wpAnyH_take (i := 25) (v := .func (.func 12) #[] #[.pointer (some ⟨w.heap.size, 0, none⟩)]) rfl (by kernel_rfl) (by kernel_rfl) (by kernel_rfl) (fun _ _ _ h => h) (.inl ⟨by rfl, ?_⟩) (by assumption) ?_
  · intro W hW; go_simp
  try simp only [List.getElem_toArray, List.getElem_cons_zero, List.getElem_cons_succ, Act.put, List.setIfInBounds_toArray, List.set_cons_zero, List.set_cons_succ]
  refine wpAnyH_take (i := 27) (v := .bool f) rfl (by kernel_rfl) (by kernel_rfl) (by kernel_rfl) (fun _ _ _ h => h) (.inl ⟨by rfl, ?_⟩) (by assumption) ?_
  · intro W hW; go_simp
  try simp only [List.getElem_toArray, List.getElem_cons_zero, List.getElem_cons_succ, Act.put, List.setIfInBounds_toArray, List.set_cons_zero, List.set_cons_succ]
  refine wpAnyH_take (i := 30) (v := .string (strOfNums bs)) rfl (by kernel_rfl) (by kernel_rfl) (by kernel_rfl) (fun _ _ _ h => h) (.inl ⟨by rfl, ?_⟩) (by assumption) ?_
  · intro W hW; go_simp
  try simp only [List.getElem_toArray, List.getElem_cons_zero, List.getElem_cons_succ, Act.put, List.setIfInBounds_toArray, List.set_cons_zero, List.set_cons_succ]
  refine wpAnyH_take (i := 31) (v := .bool f) rfl (by kernel_rfl) (by kernel_rfl) (by kernel_rfl) (fun _ _ _ h => h) (.inl ⟨by rfl, ?_⟩) (by assumption) ?_
  · intro W hW; go_simp
  try simp only [List.getElem_toArray, List.getElem_cons_zero, List.getElem_cons_succ, Act.put, List.setIfInBounds_toArray, List.set_cons_zero, List.set_cons_succ]
  refine wpAnyH_ready (rs := [26]) (by kernel_rfl) (by simp) (AllReadyH.cons rfl (fun K1 hK => ?_) AllReadyH.nil)
  go_simp
  have hU := hH
  refine (CB.out _ _ hU).mono ?_; rintro e W1 ⟨v1, rfl, hN⟩
  have hH := hU.keep hN.q
  have ow : Owns W1 _ v1 bs := ⟨hN.o, hN.q.size, by have := HBL.out; omega⟩
  refine hK.out _ _ hH (fun _ => ?_)
  clear hK
  try simp only [List.getElem_toArray, List.getElem_cons_zero, List.getElem_cons_succ, Act.put, List.setIfInBounds_toArray, List.set_cons_zero, List.set_cons_succ]
  refine wpAnyH_ready (rs := [28]) (by kernel_rfl) (by simp) (AllReadyH.cons rfl (fun K1 hK => ?_) AllReadyH.nil)
  go_simp
  refine (KK.out.flag _ v1 bs f W1 ow).mono ?_; rintro e W2 ⟨v2, rfl, o2, g2⟩
  have hH := hU.keep (hN.q.trans ((Below.refl _ W1).grown g2 hN.q.size fun k hk => (hN.o.lt k hk).1))
  obtain ⟨A2, c2, rfl, r2⟩ := owns_rd o2
  refine hK.out _ _ hH (fun _ => ?_)
  clear hK o2 g2 ow hN hU
  try simp only [List.getElem_toArray, List.getElem_cons_zero, List.getElem_cons_succ, Act.put, List.setIfInBounds_toArray, List.set_cons_zero, List.set_cons_succ]
  refine wpAnyH_more (S1 := SS w1 ((A2, bs ++ fb f) :: _)) (fun _ h => h.less) _ _ _ _ ?_
  have hH := hH.add r2
  clear r2
  refine wpAnyH_take (i := 29) (v := .string (strOfNums (bs ++ fb f))) rfl (by kernel_rfl) (by kernel_rfl) (by kernel_rfl) (fun _ _ _ h => h) (.inl ⟨by rfl, ?_⟩) (by assumption) ?_
  · intro W hW; have k2 := conv_any (c := c2) hW.head; rw [List.length_append] at k2; go_simp
  try simp only [List.getElem_toArray, List.getElem_cons_zero, List.getElem_cons_succ, Act.put, List.setIfInBounds_toArray, List.set_cons_zero, List.set_cons_succ]
  refine wpAnyH_ready (rs := [32]) (by kernel_rfl) (by simp) (AllReadyH.cons rfl (fun K1 hK => ?_) AllReadyH.nil)
  go_simp
  refine (rflag_any f W2).mono ?_; rintro e W3 ⟨v3, rfl, hN3⟩
  have hH := hH.keep hN3.q
  obtain ⟨A3, c3, rfl, r3⟩ := hN3.rd
  refine hK.out _ _ hH (fun _ => ?_)
  clear hK hN3
  try simp only [List.getElem_toArray, List.getElem_cons_zero, List.getElem_cons_succ, Act.put, List.setIfInBounds_toArray, List.set_cons_zero, List.set_cons_succ]
  refine wpAnyH_more (S1 := SS w1 ((A3, fb f) :: _)) (fun _ h => h.less) _ _ _ _ ?_
  have hH := hH.add r3
  clear r3
  refine wpAnyH_take (i := 33) (v := .string (strOfNums (fb f))) rfl (by kernel_rfl) (by kernel_rfl) (by kernel_rfl) (fun _ _ _ h => h) (.inl ⟨by rfl, ?_⟩) (by assumption) ?_
  · intro W hW; have k2 := conv_any (c := c3) hW.head; go_simp
  try simp only [List.getElem_toArray, List.getElem_cons_zero, List.getElem_cons_succ, Act.put, List.setIfInBounds_toArray, List.set_cons_zero, List.set_cons_succ]
  refine wpAnyH_take (i := 34) (v := .string (strOfNums bs ++ strOfNums (fb f))) rfl (by kernel_rfl) (by kernel_rfl) (by kernel_rfl) (fun _ _ _ h => h) (.inl ⟨by rfl, ?_⟩) (by assumption) ?_
  · intro W hW; have hs : ¬ (strOfNums bs).size + (strOfNums (fb f)).size > 9223372036854775807 := (by rw [str_len, str_len]; have h1 := fb_ten f; have h2 := HBL.out; omega); go_simp
  try simp only [List.getElem_toArray, List.getElem_cons_zero, List.getElem_cons_succ, Act.put, List.setIfInBounds_toArray, List.set_cons_zero, List.set_cons_succ]
  refine wpAnyH_take (i := 35) (v := .bool true) rfl (by kernel_rfl) (by kernel_rfl) (by kernel_rfl) (fun _ _ _ h => h) (.inl ⟨by rfl, ?_⟩) (by assumption) ?_
  · intro W hW; have e9 := str_append bs (fb f); go_simp
  try simp only [List.getElem_toArray, List.getElem_cons_zero, List.getElem_cons_succ, Act.put, List.setIfInBounds_toArray, List.set_cons_zero, List.set_cons_succ]
  refine wpAnyH_take (i := 36) (v := .bool true) rfl (by kernel_rfl) (by kernel_rfl) (by kernel_rfl) (fun _ _ _ h => h) (.inl ⟨by rfl, ?_⟩) (by assumption) ?_
  · intro W hW; go_simp
  try simp only [List.getElem_toArray, List.getElem_cons_zero, List.getElem_cons_succ, Act.put, List.setIfInBounds_toArray, List.set_cons_zero, List.set_cons_succ]
  refine wpAnyH_take (i := 37) (v := .bool true) rfl (by kernel_rfl) (by kernel_rfl) (by kernel_rfl) (fun _ _ _ h => h) (.inl ⟨by rfl, ?_⟩) (by assumption) ?_
  · intro W hW; go_simp
  try simp only [List.getElem_toArray, List.getElem_cons_zero, List.getElem_cons_succ, Act.put, List.setIfInBounds_toArray, List.set_cons_zero, List.set_cons_succ]
  refine wpAnyH_take (i := 38) (v := .func (.func 12) #[] #[.pointer (some ⟨w.heap.size, 0, none⟩)]) rfl (by kernel_rfl) (by kernel_rfl) (by kernel_rfl) (fun _ _ _ h => h) (.inl ⟨by rfl, ?_⟩) (by assumption) ?_
  · intro W hW; go_simp
  try simp only [List.getElem_toArray, List.getElem_cons_zero, List.getElem_cons_succ, Act.put, List.setIfInBounds_toArray, List.set_cons_zero, List.set_cons_succ]
  refine wpAnyH_take (i := 40) (v := .slice (some ⟨g, 0, none⟩) m cap) rfl (by kernel_rfl) (by kernel_rfl) (by kernel_rfl) (fun _ _ _ h => h) (.inl ⟨by rfl, ?_⟩) (by assumption) ?_
  · intro W hW; go_simp
  try simp only [List.getElem_toArray, List.getElem_cons_zero, List.getElem_cons_succ, Act.put, List.setIfInBounds_toArray, List.set_cons_zero, List.set_cons_succ]
  refine wpAnyH_take (i := 43) (v := .string (strOfNums bs)) rfl (by kernel_rfl) (by kernel_rfl) (by kernel_rfl) (fun _ _ _ h => h) (.inl ⟨by rfl, ?_⟩) (by assumption) ?_
  · intro W hW; go_simp
  try simp only [List.getElem_toArray, List.getElem_cons_zero, List.getElem_cons_succ, Act.put, List.setIfInBounds_toArray, List.set_cons_zero, List.set_cons_succ]
  refine wpAnyH_take (i := 44) (v := .slice B m d) rfl (by kernel_rfl) (by kernel_rfl) (by kernel_rfl) (fun _ _ _ h => h) (.inl ⟨by rfl, ?_⟩) (by assumption) ?_
  · intro W hW; go_simp
  try simp only [List.getElem_toArray, List.getElem_cons_zero, List.getElem_cons_succ, Act.put, List.setIfInBounds_toArray, List.set_cons_zero, List.set_cons_succ]
  refine wpAnyH_ready (rs := [39]) (by kernel_rfl) (by simp) (AllReadyH.cons rfl (fun K1 hK => ?_) AllReadyH.nil)
  go_simp
  have hU := hH
  refine (CB.out _ _ hU).mono ?_; rintro e W1 ⟨v1, rfl, hN⟩
  have hH := hU.keep hN.q
  have ow : Owns W1 _ v1 bs := ⟨hN.o, hN.q.size, by have := HBL.out; omega⟩
  refine hK.out _ _ hH (fun _ => ?_)
  clear hK
  try simp only [List.getElem_toArray, List.getElem_cons_zero, List.getElem_cons_succ, Act.put, List.setIfInBounds_toArray, List.set_cons_zero, List.set_cons_succ]
  refine wpAnyH_ready (rs := [41]) (by kernel_rfl) (by simp) (AllReadyH.cons rfl (fun K1 hK => ?_) AllReadyH.nil)
  go_simp
  refine (KK.out.text _ v1 bs (some ⟨g, 0, none⟩) m cap ts W1 ow ((LB.out _ _ hH).1) hm (fun e => by cases e) (fun a ha => fun e => by cases ha; have := (hN.o.lt g e).1; have := HLT.out; have := hU.1.size; omega)).mono ?_; rintro e W2 ⟨v2, rfl, o2, g2⟩
  have hH := hU.keep (hN.q.trans ((Below.refl _ W1).grown g2 hN.q.size fun k hk => (hN.o.lt k hk).1))
  obtain ⟨A2, c2, rfl, r2⟩ := owns_rd o2
  refine hK.out _ _ hH (fun _ => ?_)
  clear hK o2 g2 ow hN hU
  try simp only [List.getElem_toArray, List.getElem_cons_zero, List.getElem_cons_succ, Act.put, List.setIfInBounds_toArray, List.set_cons_zero, List.set_cons_succ]
  refine wpAnyH_more (S1 := SS w1 ((A2, bs ++ tb ts) :: _)) (fun _ h => h.less) _ _ _ _ ?_
  have hH := hH.add r2
  clear r2
  refine wpAnyH_take (i := 42) (v := .string (strOfNums (bs ++ tb ts))) rfl (by kernel_rfl) (by kernel_rfl) (by kernel_rfl) (fun _ _ _ h => h) (.inl ⟨by rfl, ?_⟩) (by assumption) ?_
  · intro W hW; have k2 := conv_any (c := c2) hW.head; rw [List.length_append] at k2; go_simp
  try simp only [List.getElem_toArray, List.getElem_cons_zero, List.getElem_cons_succ, Act.put, List.setIfInBounds_toArray, List.set_cons_zero, List.set_cons_succ]
  refine wpAnyH_ready (rs := [45]) (by kernel_rfl) (by simp) (AllReadyH.cons rfl (fun K1 hK => ?_) AllReadyH.nil)
  go_simp
  refine (rtext_any B m d ts W2 (TB.out _ _ hH) hm H02.out).mono ?_; rintro e W3 ⟨v3, rfl, hN3⟩
  have hH := hH.keep hN3.q
  obtain ⟨A3, c3, rfl, r3⟩ := hN3.rd
  refine hK.out _ _ hH (fun _ => ?_)
  clear hK hN3
  try simp only [List.getElem_toArray, List.getElem_cons_zero, List.getElem_cons_succ, Act.put, List.setIfInBounds_toArray, List.set_cons_zero, List.set_cons_succ]
  refine wpAnyH_more (S1 := SS w1 ((A3, tb ts) :: _)) (fun _ h => h.less) _ _ _ _ ?_
  have hH := hH.add r3
  clear r3
  refine wpAnyH_take (i := 46) (v := .string (strOfNums (tb ts))) rfl (by kernel_rfl) (by kernel_rfl) (by kernel_rfl) (fun _ _ _ h => h) (.inl ⟨by rfl, ?_⟩) (by assumption) ?_
  · intro W hW; have k2 := conv_any (c := c3) hW.head; go_simp
  try simp only [List.getElem_toArray, List.getElem_cons_zero, List.getElem_cons_succ, Act.put, List.setIfInBounds_toArray, List.set_cons_zero, List.set_cons_succ]
  refine wpAnyH_take (i := 47) (v := .string (strOfNums bs ++ strOfNums (tb ts))) rfl (by kernel_rfl) (by kernel_rfl) (by kernel_rfl) (fun _ _ _ h => h) (.inl ⟨by rfl, ?_⟩) (by assumption) ?_
  · intro W hW; have hs : ¬ (strOfNums bs).size + (strOfNums (tb ts)).size > 9223372036854775807 := (by rw [str_len, str_len]; have h1 := tb_len HTL.out hm; have h2 := HBL.out; omega); go_simp
  try simp only [List.getElem_toArray, List.getElem_cons_zero, List.getElem_cons_succ, Act.put, List.setIfInBounds_toArray, List.set_cons_zero, List.set_cons_succ]
  refine wpAnyH_take (i := 48) (v := .bool true) rfl (by kernel_rfl) (by kernel_rfl) (by kernel_rfl) (fun _ _ _ h => h) (.inl ⟨by rfl, ?_⟩) (by assumption) ?_
  · intro W hW; have e9 := str_append bs (tb ts); go_simp
  try simp only [List.getElem_toArray, List.getElem_cons_zero, List.getElem_cons_succ, Act.put, List.setIfInBounds_toArray, List.set_cons_zero, List.set_cons_succ]
  refine wpAnyH_take (i := 49) (v := .bool true) rfl (by kernel_rfl) (by kernel_rfl) (by kernel_rfl) (fun _ _ _ h => h) (.inl ⟨by rfl, ?_⟩) (by assumption) ?_
  · intro W hW; go_simp
  try simp only [List.getElem_toArray, List.getElem_cons_zero, List.getElem_cons_succ, Act.put, List.setIfInBounds_toArray, List.set_cons_zero, List.set_cons_succ]
  refine wpAnyH_take (i := 50) (v := .bool true) rfl (by kernel_rfl) (by kernel_rfl) (by kernel_rfl) (fun _ _ _ h => h) (.inl ⟨by rfl, ?_⟩) (by assumption) ?_
  · intro W hW; go_simp
  try simp only [List.getElem_toArray, List.getElem_cons_zero, List.getElem_cons_succ, Act.put, List.setIfInBounds_toArray, List.set_cons_zero, List.set_cons_succ]
  refine wpAnyH_take (i := 51) (v := .slice (some ⟨g, 0, none⟩) m cap) rfl (by kernel_rfl) (by kernel_rfl) (by kernel_rfl) (fun _ _ _ h => h) (.inl ⟨by rfl, ?_⟩) (by assumption) ?_
  · intro W hW; go_simp
  try simp only [List.getElem_toArray, List.getElem_cons_zero, List.getElem_cons_succ, Act.put, List.setIfInBounds_toArray, List.set_cons_zero, List.set_cons_succ]
  refine wpAnyH_take (i := 52) (v := .slice B m d) rfl (by kernel_rfl) (by kernel_rfl) (by kernel_rfl) (fun _ _ _ h => h) (.inl ⟨by rfl, ?_⟩) (by assumption) ?_
  · intro W hW; go_simp
  try simp only [List.getElem_toArray, List.getElem_cons_zero, List.getElem_cons_succ, Act.put, List.setIfInBounds_toArray, List.set_cons_zero, List.set_cons_succ]
  refine wpAnyH_ready (rs := [53]) (by kernel_rfl) (by simp) (AllReadyH.cons rfl (fun K1 hK => ?_) AllReadyH.nil)
  go_simp
  refine (kept_any B g cap m d _ ts _ (TB.out _ _ hH) hm (LB.out _ _ hH).2).mono ?_; rintro e W4 ⟨rfl, rfl⟩
  refine hK.out _ _ hH (fun _ => ?_)
  clear hK
  try simp only [List.getElem_toArray, List.getElem_cons_zero, List.getElem_cons_succ, Act.put, List.setIfInBounds_toArray, List.set_cons_zero, List.set_cons_succ]
  refine wpAnyH_take (i := 54) (v := .bool true) rfl (by kernel_rfl) (by kernel_rfl) (by kernel_rfl) (fun _ _ _ h => h) (.inl ⟨by rfl, ?_⟩) (by assumption) ?_
  · intro W hW; go_simp
  try simp only [List.getElem_toArray, List.getElem_cons_zero, List.getElem_cons_succ, Act.put, List.setIfInBounds_toArray, List.set_cons_zero, List.set_cons_succ]
  refine wpAnyH_take (i := 55) (v := .bool true) rfl (by kernel_rfl) (by kernel_rfl) (by kernel_rfl) (fun _ _ _ h => h) (.inl ⟨by rfl, ?_⟩) (by assumption) ?_
  · intro W hW; go_simp
  try simp only [List.getElem_toArray, List.getElem_cons_zero, List.getElem_cons_succ, Act.put, List.setIfInBounds_toArray, List.set_cons_zero, List.set_cons_succ]
  refine wpAnyH_ready (rs := [56]) (by kernel_rfl) (by simp) (AllReadyH.cons rfl (fun K1 hK => ?_) AllReadyH.nil)
  go_simp
  refine (KK.out.known _).mono ?_; rintro e W5 ⟨rfl, q5⟩
  have hH := hH.keep q5
  refine hK.out _ _ hH (fun _ => ?_)
  clear hK q5
  try simp only [List.getElem_toArray, List.getElem_cons_zero, List.getElem_cons_succ, Act.put, List.setIfInBounds_toArray, List.set_cons_zero, List.set_cons_succ]
  refine wpAnyH_take (i := 57) (v := .bool true) rfl (by kernel_rfl) (by kernel_rfl) (by kernel_rfl) (fun _ _ _ h => h) (.inl ⟨by rfl, ?_⟩) (by assumption) ?_
  · intro W hW; go_simp
  try simp only [List.getElem_toArray, List.getElem_cons_zero, List.getElem_cons_succ, Act.put, List.setIfInBounds_toArray, List.set_cons_zero, List.set_cons_succ]
  refine wpAnyH_take (i := 58) (v := .bool true) rfl (by kernel_rfl) (by kernel_rfl) (by kernel_rfl) (fun _ _ _ h => h) (.inl ⟨by rfl, ?_⟩) (by assumption) ?_
  · intro W hW; go_simp
  try simp only [List.getElem_toArray, List.getElem_cons_zero, List.getElem_cons_succ, Act.put, List.setIfInBounds_toArray, List.set_cons_zero, List.set_cons_succ]
  refine wpAnyH_done (by decide +kernel) ?_ _
  have BB := Lib.hid (Q1.out.trans (hH.1.mono Q1.out.size))
  clear hH
  go_wp2
  go_ret
  exact ⟨rfl, BB.out⟩
end Go.Proofs.Ytehmheohojnpmaa
