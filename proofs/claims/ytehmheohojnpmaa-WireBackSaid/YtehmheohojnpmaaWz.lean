/- The walk of the statement WireOnly, its end. -/
import Derived.Test.YtehmheohojnpmaaWy
namespace Go.Proofs.Ytehmheohojnpmaa
open Go.RowKit

/-- What was read, written again, is the bytes that were read. -/
def Same (bs l f : List Int) (e : Int) : Prop := (e ≠ 0 ∧ l.length = bs.length) ∨ (e = 0 ∧ l.length < bs.length ∧ f = bs.take (bs.length - l.length))
theorem only_num {bs : List Int} (hy : By bs) : Same bs (sR bs 0 top).2.1 (nb (sR bs 0 top).1.toNat) (sR bs 0 top).2.2 := by
  have hk := rdN_ok hy
  unfold sR
  rw [if_neg (by simp)]
  by_cases h : (rdN bs).2.2 = 0
  · have hf := rd_form hy h
    rw [if_neg (by simpa using h), if_neg (by unfold top; omega)]
    refine .inr ⟨rfl, by rw [List.length_drop]; omega, ?_⟩
    rw [← hf.1, List.length_drop]
    congr 1; omega
  · rw [if_pos h]
    exact .inl ⟨h, rfl⟩
theorem only_int {bs : List Int} (hy : By bs) : Same bs (sR bs 0 top).2.1 (ib (zz (sR bs 0 top).1)) (sR bs 0 top).2.2 := by
  have h := only_num hy
  have hb := sR_bd hy 0 top
  have e := ib_zz (n := (sR bs 0 top).1.toNat) (by omega)
  rw [show (((sR bs 0 top).1.toNat : Nat) : Int) = (sR bs 0 top).1 by omega] at e
  rw [e]
  exact h
theorem only_text {bs : List Int} (hy : By bs) (most : Int) : Same bs (tR bs 0 most).2.1 (tb (tR bs 0 most).1) (tR bs 0 most).2.2 := by
  have hk := rdN_ok hy
  unfold tR
  rw [if_neg (by simp)]
  by_cases h : (rdN bs).2.2 = 0
  · have hf := rd_form hy h
    rw [if_neg (by simpa using h)]
    split
    · exact .inl ⟨show (3 : Int) ≠ 0 by decide, rfl⟩
    · split
      · exact .inl ⟨show (4 : Int) ≠ 0 by decide, rfl⟩
      · refine .inr ⟨rfl, by rw [List.length_drop]; omega, ?_⟩
        dsimp only
        have hl : ((bs.drop (rdN bs).2.1).take (rdN bs).1.toNat).length = (rdN bs).1.toNat := by rw [List.length_take, List.length_drop]; omega
        unfold tb
        rw [hl, ← hf.1, List.length_drop, show bs.length - (bs.length - ((rdN bs).2.1 + (rdN bs).1.toNat)) = (rdN bs).2.1 + (rdN bs).1.toNat by omega, List.take_add]
  · rw [if_pos h]
    exact .inl ⟨h, rfl⟩

theorem alloc_size (w : World) (o : Obj) : (w.alloc o).heap.size = w.heap.size + 1 := by simp
theorem Reads.other (K : Reads) {W W' : World} {g g' : Nat} {F : Nat → Prop} {bs : List Int} {e : Int} (h : K.Wr W g F bs e) (q : W.grownBy W' (some g')) (hne : ¬ F g') : K.Wr W' g F bs e :=
  K.keep h fun k hk => q.block k ((K.lt h).2 k hk) fun e1 => hne (by cases e1; exact hk)
theorem owns_rd3 {W : World} {base : Nat} {v : Value} {bs : List Int} (o : W.ownsRow base 5 1 v bs.length (bs.map (Value.int .u8))) : ∃ A c, v = .slice A bs.length c ∧ RdB W A bs.length bs ∧ (A = none → bs.length = 0 ∧ c = 0) := by
  rcases o.2 with ⟨e1, e2⟩ | ⟨g, cap, cur, e1, _, _⟩
  · exact ⟨none, 0, by rw [e1, e2], ⟨rfl, fun hn => absurd hn (by omega)⟩, fun _ => ⟨e2, rfl⟩⟩
  · obtain ⟨A, c, e, r⟩ := owns_rd o
    refine ⟨A, c, e, r, fun ha => ?_⟩
    rw [e, ha] at e1
    cases e1
theorem same_le {bs l f : List Int} {e : Int} {n : Nat} (hl : bs.length = n) (h : Same bs l f e) : l.length ≤ n := by
  rcases h with ⟨_, h⟩ | ⟨_, h, _⟩ <;> omega
theorem same_case {bs l f : List Int} {e : Int} {n : Nat} (hl : bs.length = n) (h : Same bs l f e) : (e ≠ 0 ∧ l.length = n) ∨ (e = 0 ∧ l.length < n ∧ f = bs.take (n - l.length)) := by
  subst hl
  exact h
theorem tR_len {bs : List Int} (e most : Int) : (tR bs e most).1.length ≤ bs.length := by
  unfold tR
  split
  · exact Nat.zero_le _
  · split
    · exact Nat.zero_le _
    · split
      · exact Nat.zero_le _
      · split
        · exact Nat.zero_le _
        · simp only [List.length_take, List.length_drop]; omega

set_option maxRecDepth 100000 in
set_option maxHeartbeats 8000000 in
theorem only_walk (K : Reads) (KW : Writes) (A : Option Addr) (n c : Nat) (bs : List Int) (w : World) (h : RdB w A n bs) (hy : By bs) (hn : n ≤ 100000) (hc : n ≤ c) (h0 : A = none → n = 0 ∧ c = 0) :
    Calls Try.prog 6 #[.slice A n c] w fun E w' => E = .returned (.bool true) ∧ Below w.heap.size w w' := by
  have hl := h.1
  have B0 := Lib.hid ((Below.refl _ w).alloc (Nat.le_refl _) (.cells #[.slice A n c] 23))
  have hx : (w.alloc (.cells #[.slice A n c] 23)).cell? ⟨w.heap.size, 0, none⟩ = some (.slice A n c) := by rw [cell_of_row _ _ _ _ _ _ (heap_alloc_new w _)]; rfl
  have BX : Hid (∀ U, Below (w.heap.size + 1) (w.alloc (.cells #[.slice A n c] 23)) U → U.cell? ⟨w.heap.size, 0, none⟩ = some (.slice A n c)) := Lib.hid (fun U hU => (hU.cell (p := ⟨w.heap.size, 0, none⟩) (Nat.lt_succ_self _)).trans hx)
  have RB : Hid (∀ U, Below (w.heap.size + 1) (w.alloc (.cells #[.slice A n c] 23)) U → RdB U A n bs) := Lib.hid (fun U hU => (h.below B0.out).below (by rw [show (w.alloc (.cells #[.slice A n c] 23)).heap.size = w.heap.size + 1 by simp]; exact hU))
  have MK := Lib.hid (fun U hU => K.make A n c bs U (RB.out U hU) hy hn h0)
  have AB : Hid (0 < n → ∀ b o, A = some ⟨b, o, none⟩ → b < w.heap.size) := Lib.hid (fun hp b o e => by
    obtain ⟨b', o', e1, hcell⟩ := h.2 hp
    rw [e] at e1
    cases e1
    exact World.block_lt_of_cell? w _ (hcell 0 hp))
  have O1 := Lib.hid (only_num hy)
  have O2 := Lib.hid (only_int hy)
  have O3 := Lib.hid (only_text hy 100000)
  have hs := sR_bd hy 0 top
  have ht := tR_len (bs := bs) 0 100000
  have CN := Lib.hid (fun W g F (r : K.Wr W g F bs 0) => K.nat W g F bs 0 r hy (by omega))
  have CI := Lib.hid (fun W g F (r : K.Wr W g F bs 0) => K.int W g F bs 0 r hy (by omega))
  have CT := Lib.hid (fun W g F (r : K.Wr W g F bs 0) => K.text W g F bs 0 100000 r hy (by omega) (by decide))
  obtain ⟨⟨v, lx, ex⟩, hr⟩ : ∃ r, sR bs 0 top = r := ⟨_, rfl⟩
  obtain ⟨⟨tx, lt, et⟩, hr2⟩ : ∃ r, tR bs 0 100000 = r := ⟨_, rfl⟩
  rw [hr] at O1 O2 hs CN CI
  rw [hr2] at O3 ht CT
  dsimp only at O1 O2 O3 hs ht CN CI CT
  obtain ⟨V, rfl⟩ : ∃ V : Nat, v = V := Int.eq_ofNat_of_zero_le hs.1
  rw [Int.toNat_natCast] at O1
  have HV : Hid (V < 18446744073709551616) := Lib.hid (by omega)
  have HZ : Hid (-9223372036854775808 ≤ zz (V : Int) ∧ zz (V : Int) ≤ 9223372036854775807) := Lib.hid (by unfold zz; split <;> omega)
  have HT : Hid (tx.length ≤ 100000) := Lib.hid (by omega)
  have HL := Lib.hid hl
  clear h hy h0 hx hl hs ht hr hr2
  go_enter Try.func6, Try.ntmps6
  go_wp2_with fail
  refine wp_region_held_drew (S := fun U => Below (w.heap.size + 1) (w.alloc (.cells #[.slice A n c] 23)) U) (by kernel_rfl) (Below.refl _ _).drew (fun hH => ?_)
  refine wpAnyH_take (i := 0) (v := .slice A n c) rfl (by kernel_rfl) (by kernel_rfl) (by kernel_rfl) (fun _ _ _ h => h) (.inl ⟨by rfl, ?_⟩) (by assumption) ?_
  · intro W hW; have b1 := BX.out _ hW; go_simp
  try simp only [List.getElem_toArray, List.getElem_cons_zero, Act.put, List.setIfInBounds_toArray, List.set_cons_zero, List.set_cons_succ]
  refine wpAnyH_take (i := 2) (v := .slice A n c) rfl (by kernel_rfl) (by kernel_rfl) (by kernel_rfl) (fun _ _ _ h => h) (.inl ⟨by rfl, ?_⟩) (by assumption) ?_
  · intro W hW; have b1 := BX.out _ hW; go_simp
  try simp only [List.getElem_toArray, List.getElem_cons_zero, List.getElem_cons_succ, Act.put, List.setIfInBounds_toArray, List.set_cons_zero, List.set_cons_succ]
  refine wpAnyH_take (i := 4) (v := .slice A n c) rfl (by kernel_rfl) (by kernel_rfl) (by kernel_rfl) (fun _ _ _ h => h) (.inl ⟨by rfl, ?_⟩) (by assumption) ?_
  · intro W hW; have b1 := BX.out _ hW; go_simp
  try simp only [List.getElem_toArray, List.getElem_cons_zero, List.getElem_cons_succ, Act.put, List.setIfInBounds_toArray, List.set_cons_zero, List.set_cons_succ]
  refine wpAnyH_ready (rs := [1]) (by decide +kernel) (by simp) (AllReadyH.cons rfl (fun K1 hK => ?_) AllReadyH.nil)
  go_simp
  refine (MK.out _ hH).mono ?_; rintro e0 W1 ⟨g1, F1, rfl, r1, q1, l1, s1⟩
  have hsz := Nat.le_trans (Nat.le_of_eq (alloc_size w (.cells #[.slice A n c] 23)).symm) hH.size
  have hH := hH.trans (q1.mono hsz)
  have t1 := (K.lt r1).2
  have u1 := t1 _ (K.lt r1).1
  refine hK.out _ _ hH (fun _ => ?_)
  clear hK
  try simp only [List.getElem_toArray, List.getElem_cons_zero, List.getElem_cons_succ, Act.put, List.setIfInBounds_toArray, List.set_cons_zero, List.set_cons_succ]
  have z1 : w.heap.size + 1 ≤ g1 := Nat.le_trans hsz l1
  have zz1 := hsz
  refine wpAnyH_ready (rs := [3]) (by decide +kernel) (by simp) (AllReadyH.cons rfl (fun K1 hK => ?_) AllReadyH.nil)
  go_simp
  refine (MK.out _ hH).mono ?_; rintro e0 W2 ⟨g2, F2, rfl, r2, q2, l2, s2⟩
  have hsz := Nat.le_trans (Nat.le_of_eq (alloc_size w (.cells #[.slice A n c] 23)).symm) hH.size
  have hH := hH.trans (q2.mono hsz)
  have t2 := (K.lt r2).2
  have u2 := t2 _ (K.lt r2).1
  have r1 := K.below r1 q2
  refine hK.out _ _ hH (fun _ => ?_)
  clear hK
  try simp only [List.getElem_toArray, List.getElem_cons_zero, List.getElem_cons_succ, Act.put, List.setIfInBounds_toArray, List.set_cons_zero, List.set_cons_succ]
  have y2 := q2.size
  refine wpAnyH_ready (rs := [5]) (by decide +kernel) (by simp) (AllReadyH.cons rfl (fun K1 hK => ?_) AllReadyH.nil)
  go_simp
  refine (MK.out _ hH).mono ?_; rintro e0 W3 ⟨g3, F3, rfl, r3, q3, l3, s3⟩
  have hsz := Nat.le_trans (Nat.le_of_eq (alloc_size w (.cells #[.slice A n c] 23)).symm) hH.size
  have hH := hH.trans (q3.mono hsz)
  have t3 := (K.lt r3).2
  have u3 := t3 _ (K.lt r3).1
  have r1 := K.below r1 q3
  have r2 := K.below r2 q3
  refine hK.out _ _ hH (fun _ => ?_)
  clear hK
  try simp only [List.getElem_toArray, List.getElem_cons_zero, List.getElem_cons_succ, Act.put, List.setIfInBounds_toArray, List.set_cons_zero, List.set_cons_succ]
  have y3 := q3.size
  refine wpAnyH_take (i := 6) (v := .pointer (some ⟨g1, 0, none⟩)) rfl (by kernel_rfl) (by kernel_rfl) (by kernel_rfl) (fun _ _ _ h => h) (.inl ⟨by rfl, ?_⟩) (by assumption) ?_
  · intro W hW; go_simp
  try simp only [List.getElem_toArray, List.getElem_cons_zero, List.getElem_cons_succ, Act.put, List.setIfInBounds_toArray, List.set_cons_zero, List.set_cons_succ]
  refine wpAnyH_take (i := 7) (v := .pointer (some ⟨g2, 0, none⟩)) rfl (by kernel_rfl) (by kernel_rfl) (by kernel_rfl) (fun _ _ _ h => h) (.inl ⟨by rfl, ?_⟩) (by assumption) ?_
  · intro W hW; go_simp
  try simp only [List.getElem_toArray, List.getElem_cons_zero, List.getElem_cons_succ, Act.put, List.setIfInBounds_toArray, List.set_cons_zero, List.set_cons_succ]
  refine wpAnyH_take (i := 8) (v := .pointer (some ⟨g3, 0, none⟩)) rfl (by kernel_rfl) (by kernel_rfl) (by kernel_rfl) (fun _ _ _ h => h) (.inl ⟨by rfl, ?_⟩) (by assumption) ?_
  · intro W hW; go_simp
  try simp only [List.getElem_toArray, List.getElem_cons_zero, List.getElem_cons_succ, Act.put, List.setIfInBounds_toArray, List.set_cons_zero, List.set_cons_succ]
  refine wpAnyH_done (by decide +kernel) ?_ _
  have D : ¬ F1 g2 ∧ ¬ F1 g3 ∧ ¬ F2 g1 ∧ ¬ F2 g3 ∧ ¬ F3 g1 ∧ ¬ F3 g2 := by
    refine ⟨fun f => ?_, fun f => ?_, fun f => ?_, fun f => ?_, fun f => ?_, fun f => ?_⟩
    · have := t1 _ f; omega
    · have := t1 _ f; omega
    · rcases s2 _ f with f1 | ⟨hp, b, o, e1, e2⟩
      · omega
      · have := AB.out hp b o e1; omega
    · have := t2 _ f; omega
    · rcases s3 _ f with f1 | ⟨hp, b, o, e1, e2⟩
      · omega
      · have := AB.out hp b o e1; omega
    · rcases s3 _ f with f1 | ⟨hp, b, o, e1, e2⟩
      · omega
      · have := AB.out hp b o e1; omega
  have HD := Lib.hid D
  have HG := Lib.hid (show w.heap.size + 1 ≤ g1 ∧ w.heap.size + 1 ≤ g2 ∧ w.heap.size + 1 ≤ g3 by omega)
  have X1 := Lib.hid r1
  have X2 := Lib.hid r2
  have X3 := Lib.hid r3
  have Q3 := Lib.hid (And.intro (show w.heap.size + 1 ≤ W3.heap.size by omega) hH)
  clear D r1 r2 r3 hH t1 t2 t3 u1 u2 u3 s1 s2 s3 l1 l2 l3 z1 zz1 y2 y3 q1 q2 q3 hsz AB MK
  go_wp2_with fail
  refine (CN.out _ _ _ X1.out).mono ?_; rintro e0 W4 ⟨rfl, x1, q4⟩
  have Y1 := Lib.hid x1
  have Y2 := Lib.hid (K.other X2.out q4 HD.out.2.2.1)
  have Y3 := Lib.hid (K.other X3.out q4 HD.out.2.2.2.2.1)
  have Q4 := Lib.hid (And.intro (Nat.le_trans Q3.out.1 q4.size) (Q3.out.2.trans (grown_below q4 Q3.out.1 HG.out.1)))
  clear x1 q4 X1 X2 X3 Q3
  go_wp2_with fail
  refine (CI.out _ _ _ Y2.out).mono ?_; rintro e0 W5 ⟨rfl, x2, q5⟩
  have Z2 := Lib.hid x2
  have Z1 := Lib.hid (K.other Y1.out q5 HD.out.1)
  have Z3 := Lib.hid (K.other Y3.out q5 HD.out.2.2.2.2.2)
  have Q5 := Lib.hid (And.intro (Nat.le_trans Q4.out.1 q5.size) (Q4.out.2.trans (grown_below q5 Q4.out.1 HG.out.2.1)))
  clear x2 q5 Y1 Y2 Y3 Q4
  go_wp2_with fail
  refine (CT.out _ _ _ Z3.out).mono ?_; rintro e0 W6 ⟨v7, rfl, o7, x3, q6⟩
  have V3 := Lib.hid x3
  have V1 := Lib.hid (K.other Z1.out q6 HD.out.2.1)
  have V2 := Lib.hid (K.other Z2.out q6 HD.out.2.2.2.1)
  have Q6 := Lib.hid (And.intro (Nat.le_trans Q5.out.1 q6.size) (Q5.out.2.trans (grown_below q6 Q5.out.1 HG.out.2.2)))
  obtain ⟨A7, c7, rfl, r7, n7⟩ := owns_rd3 o7
  have R7 := Lib.hid r7
  have N7 := Lib.hid n7
  clear x3 q6 o7 Z1 Z2 Z3 Q5 r7 n7
  go_wp2_with fail
  refine (KW.nat0 V HV.out _).mono ?_; rintro e0 W7 ⟨A8, c8, rfl, r8, q7, -⟩
  have Q7 := Lib.hid (And.intro (Nat.le_trans Q6.out.1 q7.size) (Q6.out.2.trans (q7.mono Q6.out.1)))
  have V1 := Lib.hid (K.below V1.out q7)
  have V2 := Lib.hid (K.below V2.out q7)
  have V3 := Lib.hid (K.below V3.out q7)
  have R7 := Lib.hid (R7.out.below q7)
  have R8 := Lib.hid r8
  clear q7 r8 Q6
  go_wp2_with fail
  refine (again_any K g1 w.heap.size F1 A A8 n c c8 bs lx (nb V) ex _ V1.out (BX.out _ Q7.out.2) (RB.out _ Q7.out.2) R8.out hn hc (same_le HL.out O1.out) (same_case HL.out O1.out)).mono ?_; rintro e0 W8 ⟨rfl, q8⟩
  have Q8 := Lib.hid (And.intro (Nat.le_trans Q7.out.1 q8.size) (Q7.out.2.trans (q8.mono Q7.out.1)))
  have V2 := Lib.hid (K.below V2.out q8)
  have V3 := Lib.hid (K.below V3.out q8)
  have R7 := Lib.hid (R7.out.below q8)
  clear q8 Q7
  go_wp2_with fail
  refine (KW.int0 (zz V) HZ.out _).mono ?_; rintro e0 W9 ⟨A9, c9, rfl, r9, q9, -⟩
  have Q9 := Lib.hid (And.intro (Nat.le_trans Q8.out.1 q9.size) (Q8.out.2.trans (q9.mono Q8.out.1)))
  have V2 := Lib.hid (K.below V2.out q9)
  have V3 := Lib.hid (K.below V3.out q9)
  have R7 := Lib.hid (R7.out.below q9)
  have R9 := Lib.hid r9
  clear q9 r9 Q8
  go_wp2_with fail
  refine (again_any K g2 w.heap.size F2 A A9 n c c9 bs lx (ib (zz V)) ex _ V2.out (BX.out _ Q9.out.2) (RB.out _ Q9.out.2) R9.out hn hc (same_le HL.out O2.out) (same_case HL.out O2.out)).mono ?_; rintro e0 W10 ⟨rfl, q10⟩
  have Q10 := Lib.hid (And.intro (Nat.le_trans Q9.out.1 q10.size) (Q9.out.2.trans (q10.mono Q9.out.1)))
  have V3 := Lib.hid (K.below V3.out q10)
  have R7 := Lib.hid (R7.out.below q10)
  clear q10 Q9
  go_wp2_with fail
  refine (KW.text0 A7 tx.length c7 tx _ R7.out HT.out N7.out).mono ?_; rintro e0 W11 ⟨A10, c10, rfl, r10, q11, -⟩
  have Q11 := Lib.hid (And.intro (Nat.le_trans Q10.out.1 q11.size) (Q10.out.2.trans (q11.mono Q10.out.1)))
  have V3 := Lib.hid (K.below V3.out q11)
  have R10 := Lib.hid r10
  clear q11 r10 Q10
  go_wp2_with fail
  refine (again_any K g3 w.heap.size F3 A A10 n c c10 bs lt (tb tx) et _ V3.out (BX.out _ Q11.out.2) (RB.out _ Q11.out.2) R10.out hn hc (same_le HL.out O3.out) (same_case HL.out O3.out)).mono ?_; rintro e0 W12 ⟨rfl, q12⟩
  have Q12 := Lib.hid (And.intro (Nat.le_trans Q11.out.1 q12.size) (Q11.out.2.trans (q12.mono Q11.out.1)))
  clear q12 Q11
  go_wp2_with fail
  refine (K.known _).mono ?_; rintro e0 W13 ⟨rfl, q13⟩
  have BF := Lib.hid (B0.out.trans ((Q12.out.2.trans (q13.mono Q12.out.1)).mono (Nat.le_succ _)))
  clear q13
  go_wp2_with fail
  go_ret
  exact ⟨rfl, BF.out⟩
end Go.Proofs.Ytehmheohojnpmaa
