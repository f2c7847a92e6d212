/- The program's book: Get, and why an order that comes is refused. -/
import Derived.Test.YtdcjgcjnfcahkaaG07
import Derived.Test.YtdcjgcjnfcahkaaG08
namespace Go.Proofs.Ytdcjgcjnfcahkaa
open Go.RowKit Go.Shelf
set_option linter.unusedVariables false
set_option linter.unusedSimpArgs false

section
variable {Pd : PdT} {zs : Array Value} {w : World} {G : Nat} {g : Bool → Nat} {F : Bool → Nat → Prop} {S : Sd} {t : Nat}
set_option maxRecDepth 100000 in
set_option maxHeartbeats 1000000 in
theorem pbget_any (K : SideK Pd zs) {n : Int} (w : World) (h : Bp Pd w G g F S t) (hn : U64' n) :
    Calls Try.prog 22 #[.pointer (some ⟨G, 0, none⟩), .int .u64 n] w fun e w' => e = .returned (.tuple #[.agg (EO.cells (takeX S n)).toArray, .int .i64 (takeA S n)]) ∧ Below w.heap.size w w' := by
  have hz := zero_or
  obtain ⟨W1, hW1, b1, x1, s1⟩ := res_new w
  have h1 := h.below K b1
  have MS := Lib.hid (pmiss_no h1.c0)
  have PA := Lib.hid (K.get (h1.pd true) hn)
  have k0 := h1.c0
  have K1 := Lib.hid fun (W : World) (q : Below W1.heap.size W1 W) => (h1.below K q).c1
  have PB := Lib.hid fun (W : World) (q : Below W1.heap.size W1 W) => K.get ((h1.below K q).pd false) hn
  have HW := Lib.hid hW1
  have X1 := Lib.hid fun (W : World) (q : Below W1.heap.size W1 W) => (show EO.Bx 31 W w.heap.size zeroOr from gbx_below x1 q)
  have B1 := Lib.hid b1
  have two := get_two (S true) n
  have E1 := Lib.hid (fun e : getA (S true) n = 0 => take_buy e)
  have E2 := Lib.hid (fun e : getA (S true) n = 7 => take_sell e)
  generalize getA (S true) n = ga at *
  generalize getX (S true) n = xa at *
  clear K h h1 x1 b1 hW1 s1
  rcases two with rfl | rfl
  · obtain ⟨e1, e2⟩ := E1.out rfl
    rw [e1, e2]
    clear E1 E2 e1 e2 K1 PB
    go_enter Try.func22, Try.ntmps22
    go_wp2_with fail
    rw [HW.out]
    refine MS.out.mono ?_; rintro e w0 ⟨rfl, rfl⟩
    go_wp2_with fail
    refine PA.out.mono ?_; rintro e w2 ⟨rfl, q2⟩
    obtain ⟨W3, hW3, b3, x3, s3⟩ := res_new w2
    have x4 : EO.Bx 31 (W3.setRow w2.heap.size (EO.cells xa).toArray) w2.heap.size xa := gbx_set x3
    have Q3 := Lib.hid (show Below W1.heap.size W1 (W3.setRow w2.heap.size (EO.cells xa).toArray) from below_row0 (q2.trans (b3.mono q2.size)) q2.size)
    have X4 := Lib.hid x4
    have X3 := Lib.hid x3
    have HW3 := Lib.hid hW3
    clear x4 x3 b3 hW3 q2
    go_wp2_with (first | (rw [HW3.out]) | (refine gwl_store TO xa w2.heap.size X3.out rfl rfl ?_) | ((with_reducible refine gwl_load TO w2.heap.size 0 (gbx_rng X4.out) ?_ ?_ ?_); rfl; rfl) | (refine gwl_store TO xa w.heap.size (X1.out _ Q3.out) rfl rfl ?_))
    exact bodyPost_ret (gret TO rfl _ _ w.heap.size rfl rfl (gbx_set (X1.out _ Q3.out))) rfl ⟨rfl, row_inO (Nat.le_refl _) (B1.out.trans (Q3.out.mono B1.out.size))⟩
  · obtain ⟨e1, e2⟩ := E2.out rfl
    rw [e1, e2]
    clear E1 E2 e1 e2
    generalize getA (S false) n = gb at *
    generalize getX (S false) n = xb at *
    go_enter Try.func22, Try.ntmps22
    go_wp2_with fail
    rw [HW.out]
    refine MS.out.mono ?_; rintro e w0 ⟨rfl, rfl⟩
    go_wp2_with fail
    refine PA.out.mono ?_; rintro e w2 ⟨rfl, q2⟩
    obtain ⟨W3, hW3, b3, x3, s3⟩ := res_new w2
    have Q3 := Lib.hid (show Below W1.heap.size W1 (W3.setRow w2.heap.size (EO.cells xa).toArray) from below_row0 (q2.trans (b3.mono q2.size)) q2.size)
    have X3 := Lib.hid x3
    have HW3 := Lib.hid hW3
    have k1 := K1.out _ Q3.out
    clear x3 b3 hW3 q2
    go_wp2_with (first | (rw [HW3.out]) | (refine gwl_store TO xa w2.heap.size X3.out rfl rfl ?_))
    refine (PB.out _ Q3.out).mono ?_; rintro e w4 ⟨rfl, q4⟩
    have Q4 := Lib.hid (show Below W1.heap.size W1 w4 from Q3.out.trans (q4.mono Q3.out.size))
    clear q4
    go_wp2_with (refine gwl_store TO xb w.heap.size (X1.out _ Q4.out) rfl rfl ?_)
    exact bodyPost_ret (gret TO rfl _ _ w.heap.size rfl rfl (gbx_set (X1.out _ Q4.out))) rfl ⟨rfl, row_inO (Nat.le_refl _) (B1.out.trans (Q4.out.mono B1.out.size))⟩
end
section
variable {S : Sd} {o : Or} {k : Int}
theorem known_k (h : knownK k = true) : k = 1 ∨ k = 2 ∨ k = 3 ∨ k = 4 := by
  unfold knownK at h
  simp only [Bool.or_eq_true, beq_iff_eq] at h
  omega
theorem known_no (h : knownK k = false) : k < 1 ∨ 4 < k := by
  unfold knownK at h
  simp only [Bool.or_eq_false_iff, beq_eq_false_iff_ne] at h
  omega
theorem pa_arg (h : mayO o = false ∨ knownK k = false) : placeA S o k = 2 := if_pos (h.imp id known_no)
theorem pa_two (hm : mayO o = true) (hk : knownK k = true) (hf : takeA S o.nu = 0) : placeA S o k = 8 := by
  have hk' := known_k hk
  refine (if_neg (by rw [hm]; simp; omega)).trans (if_pos ?_)
  unfold takeA at hf
  cases c : findB S o.nu with
  | none => rw [c] at hf; cases hf
  | some x => rfl
theorem pa_else (hm : mayO o = true) (hk : knownK k = true) (hf : takeA S o.nu = 7) : placeA S o k = if k = 3 ∧ sumR (!o.bu) (S (!o.bu)) o.pr o.ac < o.le then 70 else if k = 4 ∧ 0 < sumR (!o.bu) (S (!o.bu)) o.pr o.ac then 71 else if restK k = true ∧ sumR (!o.bu) (S (!o.bu)) o.pr o.ac < o.le ∧ 100 ≤ (S o.bu).length then 9 else 0 := by
  have hk' := known_k hk
  refine (if_neg (by rw [hm]; simp; omega)).trans (if_neg ?_)
  unfold takeA at hf
  cases c : findB S o.nu with
  | none => simp
  | some x => rw [c] at hf; cases hf
theorem take_two (S : Sd) (n : Int) : takeA S n = 0 ∨ takeA S n = 7 := by
  rcases take_cases S n with ⟨_, _, e⟩ | ⟨o, _, _, e⟩
  · exact .inr e
  · exact .inl e
end
section
variable {Pd : PdT} {zs : Array Value} {w : World} {G : Nat} {g : Bool → Nat} {F : Bool → Nat → Prop} {S : Sd} {t : Nat}
set_option maxRecDepth 100000 in
set_option maxHeartbeats 4000000 in
theorem prefused_any (K : SideK Pd zs) {o : Or} {k : Int} (w : World) (h : Bp Pd w G g F S t) (ok : o.ok) :
    Calls Try.prog 41 #[.pointer (some ⟨G, 0, none⟩), .agg (EO.cells o).toArray, .int .u8 k] w fun e w' => e = .returned (.int .i64 (placeA S o k)) ∧ Below w.heap.size w w' := by
  have hz := zero_or
  obtain ⟨W1, hW1⟩ : ∃ W1, w.alloc (.cells (EO.cells o).toArray 31) = W1 := ⟨_, rfl⟩
  have b1 : Below w.heap.size w W1 := by rw [← hW1]; exact below_new w _
  have x1 : EO.Bx 31 W1 w.heap.size o := by rw [← hW1]; exact gbx_new w o
  have x0 : EO.Bx 31 (w.alloc (.cells (EO.cells o).toArray 31)) w.heap.size o := gbx_new w o
  have h1 := h.below K b1
  have MY := Lib.hid fun W => K.may (w := W) ok
  have HW := Lib.hid hW1
  have B1 := Lib.hid b1
  have RG0 := Lib.hid (gbx_rng x0)
  have X0 := Lib.hid fun (W : World) (q : Below W1.heap.size W1 W) => (show W.cell? ⟨w.heap.size, 0, none⟩ = some (.int .u64 o.nu) from gbx_cell (gbx_below x1 q) 0)
  have X1 := Lib.hid fun (W : World) (q : Below W1.heap.size W1 W) => (show W.cell? ⟨w.heap.size, 1, none⟩ = some (.int .u32 o.ac) from gbx_cell (gbx_below x1 q) 1)
  have X2 := Lib.hid fun (W : World) (q : Below W1.heap.size W1 W) => (show W.cell? ⟨w.heap.size, 2, none⟩ = some (.bool o.bu) from gbx_cell (gbx_below x1 q) 2)
  have X3 := Lib.hid fun (W : World) (q : Below W1.heap.size W1 W) => (show W.cell? ⟨w.heap.size, 3, none⟩ = some (.int .i64 o.pr) from gbx_cell (gbx_below x1 q) 3)
  have X4 := Lib.hid fun (W : World) (q : Below W1.heap.size W1 W) => (show W.cell? ⟨w.heap.size, 4, none⟩ = some (.int .i64 o.le) from gbx_cell (gbx_below x1 q) 4)
  have HB := Lib.hid fun (W : World) (q : Below W1.heap.size W1 W) => h1.below K q
  have GT := Lib.hid fun (W : World) (q : Below W1.heap.size W1 W) => pbget_any K W (h1.below K q) ok.nu
  have OKP : Hid (I64' o.pr) := Lib.hid ok.pr
  have OKA : Hid (0 ≤ o.ac ∧ o.ac ≤ 4294967295) := Lib.hid ok.ac
  have KH := Lib.hid K
  have EA := Lib.hid (pa_arg (S := S) (o := o) (k := k))
  have ET2 := Lib.hid (pa_two (S := S) (o := o) (k := k))
  have EE := Lib.hid (pa_else (S := S) (o := o) (k := k))
  have KK := Lib.hid (known_k (k := k))
  have KN := Lib.hid (pknown_any k)
  have TW := Lib.hid (take_two S o.nu)
  obtain ⟨r, hr⟩ : ∃ r, sumR (!o.bu) (S (!o.bu)) o.pr o.ac = r := ⟨_, rfl⟩
  obtain ⟨m, hm⟩ : ∃ m, (S o.bu).length = m := ⟨_, rfl⟩
  obtain ⟨le, hle⟩ : ∃ le, o.le = le := ⟨_, rfl⟩
  rw [hr, hm, hle] at EE
  rw [hle] at X4
  have RC := Lib.hid fun (W : World) (q : Below W1.heap.size W1 W) => (show Calls Try.prog 64 #[.pointer (some ⟨g (!o.bu), 0, none⟩), .int .i64 o.pr, .int .u32 o.ac] W fun e w' => e = .returned (.int .i64 r) ∧ Below W.heap.size W w' by rw [← hr]; exact K.reach ((h1.below K q).pd (!o.bu)) ok.pr ok.ac)
  have LN := Lib.hid fun (W : World) (q : Below W1.heap.size W1 W) => (show Calls Try.prog 65 #[.pointer (some ⟨g o.bu, 0, none⟩)] W fun e w' => e = .returned (.int .i64 m) ∧ Below W.heap.size W w' by rw [← hm]; exact K.len ((h1.below K q).pd o.bu))
  clear K h ok h1 x1 x0 b1 hW1 hr hm hle
  obtain ⟨pa, hpa⟩ : ∃ pa, placeA S o k = pa := ⟨_, rfl⟩
  rw [hpa] at EA ET2 EE ⊢
  clear hpa
  cases hm : mayO o
  · obtain rfl := EA.out (.inl hm)
    rw [hm] at MY
    clear EA ET2 EE KK KN TW
    go_enter Try.func41, Try.ntmps41
    go_wp2_with ((with_reducible refine gwl_load TO w.heap.size 0 RG0.out ?_ ?_ ?_); rfl; rfl)
    rw [HW.out]
    refine (MY.out _).mono ?_; rintro e w2 ⟨rfl, q2⟩
    have Q2 := Lib.hid (B1.out.trans (q2.mono B1.out.size))
    clear q2
    go_wp2_with fail
    go_ret
    exact ⟨rfl, Q2.out⟩
  rw [hm] at MY
  cases hk : knownK k
  · obtain rfl := EA.out (.inr hk)
    rw [hk] at KN
    clear EA ET2 EE KK TW
    go_enter Try.func41, Try.ntmps41
    go_wp2_with ((with_reducible refine gwl_load TO w.heap.size 0 RG0.out ?_ ?_ ?_); rfl; rfl)
    rw [HW.out]
    refine (MY.out _).mono ?_; rintro e w2 ⟨rfl, q2⟩
    have Q2 := Lib.hid (B1.out.trans (q2.mono B1.out.size))
    clear q2
    go_wp2_with fail
    refine (KN.out _).mono ?_; rintro e w3 ⟨rfl, rfl⟩
    go_wp2_with fail
    go_ret
    exact ⟨rfl, Q2.out⟩
  rw [hk] at KN
  have hk4 := KK.out hk
  have E2 := Lib.hid (ET2.out hm hk)
  have E3 := Lib.hid (EE.out hm hk)
  clear EA ET2 EE KK hm hk
  generalize takeA S o.nu = ga at *
  generalize takeX S o.nu = xa at *
  rcases TW.out with rfl | rfl
  · obtain rfl := E2.out rfl
    clear E2 E3 TW
    go_enter Try.func41, Try.ntmps41
    go_wp2_with ((with_reducible refine gwl_load TO w.heap.size 0 RG0.out ?_ ?_ ?_); rfl; rfl)
    rw [HW.out]
    refine (MY.out _).mono ?_; rintro e w2 ⟨rfl, q2⟩
    have k0 := X0.out _ q2
    have Q2 := Lib.hid q2
    clear q2
    go_wp2_with fail
    refine (KN.out _).mono ?_; rintro e w3 ⟨rfl, rfl⟩
    go_wp2_with fail
    refine (GT.out _ Q2.out).mono ?_; rintro e w4 ⟨rfl, q4⟩
    obtain ⟨V, hV, bV, yV, zV, sV⟩ := put_or xa q4
    have HV := Lib.hid hV
    have ZV := Lib.hid zV
    have Q4 := Lib.hid (B1.out.trans ((Q2.out.trans (bV.mono Q2.out.size)).mono B1.out.size))
    clear q4 hV bV yV zV sV
    go_wp2_with (refine gwl_store TO xa w4.heap.size ZV.out rfl rfl ?_; rw [HV.out])
    go_ret
    exact ⟨rfl, Q4.out⟩
  · have e3 := E3.out rfl
    have E9 := Lib.hid e3
    clear E2 E3 TW e3
    go_enter Try.func41, Try.ntmps41
    go_wp2_with ((with_reducible refine gwl_load TO w.heap.size 0 RG0.out ?_ ?_ ?_); rfl; rfl)
    rw [HW.out]
    refine (MY.out _).mono ?_; rintro e w2 ⟨rfl, q2⟩
    have k0 := X0.out _ q2
    have Q2 := Lib.hid q2
    clear q2
    go_wp2_with fail
    refine (KN.out _).mono ?_; rintro e w3 ⟨rfl, rfl⟩
    go_wp2_with fail
    refine (GT.out _ Q2.out).mono ?_; rintro e w4 ⟨rfl, q4⟩
    obtain ⟨V, hV, bV, yV, zV, sV⟩ := put_or xa q4
    have HV := Lib.hid hV
    have ZV := Lib.hid zV
    have Q4 : Hid (Below W1.heap.size W1 V) := Lib.hid (Q2.out.trans (bV.mono Q2.out.size))
    clear q4 hV bV yV zV sV Q2 GT
    go_wp2_with (refine gwl_store TO xa w4.heap.size ZV.out rfl rfl ?_; rw [HV.out])
    refine wp_region_held_drew (S := fun U => Below W1.heap.size W1 U) (by kernel_rfl) Q4.out.drew (fun hH => ?_)
    refine wpAnyH_take (i := 0) (v := .pointer (some ⟨G, 0, none⟩)) rfl (by kernel_rfl) (by kernel_rfl) (by kernel_rfl) (fun _ _ _ h => h) (.inl ⟨by rfl, ?_⟩) (by assumption) ?_
    · intro W hW; go_simp
    try simp only [List.getElem_toArray, List.getElem_cons_zero, Act.put, List.setIfInBounds_toArray, List.set_cons_zero, List.set_cons_succ]
    refine wpAnyH_take (i := 1) (v := .pointer (some ⟨w.heap.size, 2, none⟩)) rfl (by kernel_rfl) (by kernel_rfl) (by kernel_rfl) (fun _ _ _ h => h) (.inl ⟨by rfl, ?_⟩) (by assumption) ?_
    · intro W hW; go_simp
    try simp only [List.getElem_toArray, List.getElem_cons_zero, List.getElem_cons_succ, Act.put, List.setIfInBounds_toArray, List.set_cons_zero, List.set_cons_succ]
    refine wpAnyH_take (i := 2) (v := .bool o.bu) rfl (by kernel_rfl) (by kernel_rfl) (by kernel_rfl) (fun _ _ _ h => h) (.inl ⟨by rfl, ?_⟩) (by assumption) ?_
    · intro W hW; have k := X2.out W hW; go_simp
    try simp only [List.getElem_toArray, List.getElem_cons_zero, List.getElem_cons_succ, Act.put, List.setIfInBounds_toArray, List.set_cons_zero, List.set_cons_succ]
    refine wpAnyH_take (i := 3) (v := .bool !o.bu) rfl (by kernel_rfl) (by kernel_rfl) (by kernel_rfl) (fun _ _ _ h => h) (.inl ⟨by rfl, ?_⟩) (by assumption) ?_
    · intro W hW; go_simp
    try simp only [List.getElem_toArray, List.getElem_cons_zero, List.getElem_cons_succ, Act.put, List.setIfInBounds_toArray, List.set_cons_zero, List.set_cons_succ]
    refine wpAnyH_take (i := 5) (v := .pointer (some ⟨w.heap.size, 3, none⟩)) rfl (by kernel_rfl) (by kernel_rfl) (by kernel_rfl) (fun _ _ _ h => h) (.inl ⟨by rfl, ?_⟩) (by assumption) ?_
    · intro W hW; go_simp
    try simp only [List.getElem_toArray, List.getElem_cons_zero, List.getElem_cons_succ, Act.put, List.setIfInBounds_toArray, List.set_cons_zero, List.set_cons_succ]
    refine wpAnyH_take (i := 6) (v := .int .i64 o.pr) rfl (by kernel_rfl) (by kernel_rfl) (by kernel_rfl) (fun _ _ _ h => h) (.inl ⟨by rfl, ?_⟩) (by assumption) ?_
    · intro W hW; have k := X3.out W hW; go_simp
    try simp only [List.getElem_toArray, List.getElem_cons_zero, List.getElem_cons_succ, Act.put, List.setIfInBounds_toArray, List.set_cons_zero, List.set_cons_succ]
    refine wpAnyH_take (i := 7) (v := .pointer (some ⟨w.heap.size, 1, none⟩)) rfl (by kernel_rfl) (by kernel_rfl) (by kernel_rfl) (fun _ _ _ h => h) (.inl ⟨by rfl, ?_⟩) (by assumption) ?_
    · intro W hW; go_simp
    try simp only [List.getElem_toArray, List.getElem_cons_zero, List.getElem_cons_succ, Act.put, List.setIfInBounds_toArray, List.set_cons_zero, List.set_cons_succ]
    refine wpAnyH_take (i := 8) (v := .int .u32 o.ac) rfl (by kernel_rfl) (by kernel_rfl) (by kernel_rfl) (fun _ _ _ h => h) (.inl ⟨by rfl, ?_⟩) (by assumption) ?_
    · intro W hW; have k := X1.out W hW; go_simp
    try simp only [List.getElem_toArray, List.getElem_cons_zero, List.getElem_cons_succ, Act.put, List.setIfInBounds_toArray, List.set_cons_zero, List.set_cons_succ]
    refine wpAnyH_ready (rs := [4]) (by decide +kernel) (by simp) (AllReadyH.cons rfl (fun KQ hK => ?_) AllReadyH.nil)
    go_simp
    refine (pside_any (!o.bu) (HB.out _ hH)).mono ?_; rintro e0 W1 ⟨rfl, rfl⟩
    have hH := hH
    refine hK.out _ _ hH (fun _ => ?_)
    clear hK 
    try simp only [List.setIfInBounds_toArray, List.set_cons_zero, List.set_cons_succ]
    refine wpAnyH_ready (rs := [9]) (by decide +kernel) (by simp) (AllReadyH.cons rfl (fun KQ hK => ?_) AllReadyH.nil)
    go_simp
    refine (RC.out _ hH).mono ?_; rintro e0 W1 ⟨rfl, q1⟩
    have hH := hH.trans (q1.mono hH.size)
    refine hK.out _ _ hH (fun _ => ?_)
    clear hK q1
    try simp only [List.setIfInBounds_toArray, List.set_cons_zero, List.set_cons_succ]
    refine wpAnyH_take (i := 10) (v := .int .i64 r) rfl (by kernel_rfl) (by kernel_rfl) (by kernel_rfl) (fun _ _ _ h => h) (.inl ⟨by rfl, ?_⟩) (by assumption) ?_
    · intro W hW; go_simp
    try simp only [List.getElem_toArray, List.getElem_cons_zero, List.getElem_cons_succ, Act.put, List.setIfInBounds_toArray, List.set_cons_zero, List.set_cons_succ]
    refine wpAnyH_done (by decide +kernel) ?_ _
    have Q5 := Lib.hid hH
    have k2 := X2.out _ hH
    clear hH
    go_wp2_with fail
    refine (pside_any o.bu (HB.out _ Q5.out)).mono ?_; rintro e w6 ⟨rfl, rfl⟩
    go_wp2_with fail
    refine (LN.out _ Q5.out).mono ?_; rintro e w7 ⟨rfl, q7⟩
    have Q7 := Lib.hid (Q5.out.trans (q7.mono Q5.out.size))
    have k4 := X4.out _ Q7.out
    clear q7
    have BF := Lib.hid (B1.out.trans (Q7.out.mono B1.out.size))
    clear X0 X1 X2 X3 X4 HB RC LN Q4 Q5 Q7 k2
    rcases hk4 with rfl | rfl | rfl | rfl
    · have PR : Hid (∀ W, Calls Try.prog 43 #[.int .u8 1] W fun e w' => e = .returned (.bool true) ∧ W = w') := Lib.hid (prests_any 1)
      by_cases c1 : r < le
      · have d1 : decide (r < le) = true := decide_eq_true c1
        by_cases c2 : 100 ≤ m
        · have d2 : decide (100 ≤ (m : Int)) = true := decide_eq_true (by omega)
          have ev : pa = 9 := by rw [E9.out]; simp [restK, c1, c2]
          subst ev
          clear E9 KN
          go_wp2_with fail
          refine (PR.out _).mono ?_; rintro e w8 ⟨rfl, rfl⟩
          go_wp2_with fail
          go_ret
          exact ⟨rfl, BF.out⟩
        · have d2 : decide (100 ≤ (m : Int)) = false := decide_eq_false (by omega)
          have ev : pa = 0 := by rw [E9.out]; simp [restK, c1, c2]
          subst ev
          clear E9 KN
          go_wp2_with fail
          refine (PR.out _).mono ?_; rintro e w8 ⟨rfl, rfl⟩
          go_wp2_with fail
          go_ret
          exact ⟨rfl, BF.out⟩
      · have d1 : decide (r < le) = false := decide_eq_false c1
        have ev : pa = 0 := by rw [E9.out]; simp [restK, c1]
        by_cases c2 : 100 ≤ m
        · have d2 : decide (100 ≤ (m : Int)) = true := decide_eq_true (by omega)
          subst ev
          clear E9 KN
          go_wp2_with fail
          refine (PR.out _).mono ?_; rintro e w8 ⟨rfl, rfl⟩
          go_wp2_with fail
          go_ret
          exact ⟨rfl, BF.out⟩
        · have d2 : decide (100 ≤ (m : Int)) = false := decide_eq_false (by omega)
          subst ev
          clear E9 KN
          go_wp2_with fail
          refine (PR.out _).mono ?_; rintro e w8 ⟨rfl, rfl⟩
          go_wp2_with fail
          go_ret
          exact ⟨rfl, BF.out⟩
    · have PR : Hid (∀ W, Calls Try.prog 43 #[.int .u8 2] W fun e w' => e = .returned (.bool false) ∧ W = w') := Lib.hid (prests_any 2)
      have ev : pa = 0 := by rw [E9.out]; simp [restK]
      subst ev
      clear E9 KN
      go_wp2_with fail
      refine (PR.out _).mono ?_; rintro e w8 ⟨rfl, rfl⟩
      go_wp2_with fail
      go_ret
      exact ⟨rfl, BF.out⟩
    · have PR : Hid (∀ W, Calls Try.prog 43 #[.int .u8 3] W fun e w' => e = .returned (.bool false) ∧ W = w') := Lib.hid (prests_any 3)
      by_cases c1 : r < le
      · have d1 : decide (r < le) = true := decide_eq_true c1
        have ev : pa = 70 := by rw [E9.out]; simp [c1]
        subst ev
        clear E9 KN
        go_wp2_with fail
        go_ret
        exact ⟨rfl, BF.out⟩
      · have d1 : decide (r < le) = false := decide_eq_false c1
        have ev : pa = 0 := by rw [E9.out]; simp [restK, c1]
        subst ev
        clear E9 KN
        go_wp2_with fail
        refine (PR.out _).mono ?_; rintro e w8 ⟨rfl, rfl⟩
        go_wp2_with fail
        go_ret
        exact ⟨rfl, BF.out⟩
    · have PR : Hid (∀ W, Calls Try.prog 43 #[.int .u8 4] W fun e w' => e = .returned (.bool true) ∧ W = w') := Lib.hid (prests_any 4)
      by_cases c0 : 0 < r
      · have d0 : decide (0 < r) = true := decide_eq_true c0
        have ev : pa = 71 := by rw [E9.out]; simp [c0]
        subst ev
        clear E9 KN
        go_wp2_with fail
        go_ret
        exact ⟨rfl, BF.out⟩
      · have d0 : decide (0 < r) = false := decide_eq_false c0
        by_cases c1 : r < le
        · have d1 : decide (r < le) = true := decide_eq_true c1
          by_cases c2 : 100 ≤ m
          · have d2 : decide (100 ≤ (m : Int)) = true := decide_eq_true (by omega)
            have ev : pa = 9 := by rw [E9.out]; simp [restK, c0, c1, c2]
            subst ev
            clear E9 KN
            go_wp2_with fail
            refine (PR.out _).mono ?_; rintro e w8 ⟨rfl, rfl⟩
            go_wp2_with fail
            go_ret
            exact ⟨rfl, BF.out⟩
          · have d2 : decide (100 ≤ (m : Int)) = false := decide_eq_false (by omega)
            have ev : pa = 0 := by rw [E9.out]; simp [restK, c0, c1, c2]
            subst ev
            clear E9 KN
            go_wp2_with fail
            refine (PR.out _).mono ?_; rintro e w8 ⟨rfl, rfl⟩
            go_wp2_with fail
            go_ret
            exact ⟨rfl, BF.out⟩
        · have d1 : decide (r < le) = false := decide_eq_false c1
          have ev : pa = 0 := by rw [E9.out]; simp [restK, c0, c1]
          by_cases c2 : 100 ≤ m
          · have d2 : decide (100 ≤ (m : Int)) = true := decide_eq_true (by omega)
            subst ev
            clear E9 KN
            go_wp2_with fail
            refine (PR.out _).mono ?_; rintro e w8 ⟨rfl, rfl⟩
            go_wp2_with fail
            go_ret
            exact ⟨rfl, BF.out⟩
          · have d2 : decide (100 ≤ (m : Int)) = false := decide_eq_false (by omega)
            subst ev
            clear E9 KN
            go_wp2_with fail
            refine (PR.out _).mono ?_; rintro e w8 ⟨rfl, rfl⟩
            go_wp2_with fail
            go_ret
            exact ⟨rfl, BF.out⟩
end
end Go.Proofs.Ytdcjgcjnfcahkaa
