/- The walk of the statement SpecWrites, given the program's own calls. -/
import Derived.Test.YtlnakhbcefmiaaaQl
import Derived.Test.YtlnakhbcefmiaaaQf
import Derived.Test.YtlnakhbcefmiaaaPv
namespace Go.Proofs.Ytlnakhbcefmiaaa
open Go.RowKit

set_option maxRecDepth 100000 in
theorem writes_out (K : SpecK) (s : Sp) (A : Option Addr) (n c : Nat) (w : World) (hb : n ≤ 9223372036854775807) (hn : 1000 < n) : Calls Try.prog 4 #[.agg s.cells, .slice A n c] w fun e w' => e = .returned (.bool true) ∧ Below w.heap.size w w' := by
  have KN := Lib.hid (fun W => known_spec K W)
  have B := Lib.hid ((Below.refl w.heap.size w).alloc (Nat.le_refl _) (.cells s.cells 25))
  clear K
  go_enter Try.func4, Try.ntmps4
  go_wp2_with fail
  refine (KN.out _).mono ?_; rintro e w1 ⟨rfl, q⟩
  have B2 := Lib.hid (B.out.trans (q.mono B.out.size))
  clear q
  go_wp2_with fail
  go_ret
  exact ⟨rfl, B2.out⟩
/-- What stands in memory behind the first two calls: the data, the bytes ahead, and what the calls told. -/
structure W2 (w U : World) (s : Sp) (A : Option Addr) (n c : Nat) (ah : List Int) (A1 : Option Addr) (n1 c1 : Nat) (bs : List Int) : Prop where
  box : Box U w.heap.size s
  q : Below w.heap.size w U
  ahead : RdB U A n ah
  told : RdB U A1 n1 bs
theorem W2.below {w U U' : World} {s : Sp} {A : Option Addr} {n c : Nat} {ah : List Int} {A1 : Option Addr} {n1 c1 : Nat} {bs : List Int} (h : W2 w U s A n c ah A1 n1 c1 bs) (b : Below U.heap.size U U') : W2 w U' s A n c ah A1 n1 c1 bs :=
  ⟨h.box.below b, h.q.trans (b.mono h.q.size), h.ahead.below b, h.told.below b⟩

set_option maxRecDepth 100000 in
set_option maxHeartbeats 8000000 in
theorem writes_in (K : SpecK) (s : Sp) (A : Option Addr) (n c : Nat) (ah : List Int) (w : World) (ok : s.ok) (h : RdB w A n ah) (hy : By ah) (h0 : A = none → n = 0 ∧ c = 0) (hn : n ≤ 1000) : Calls Try.prog 4 #[.agg s.cells, .slice A n c] w fun e w' => e = .returned (.bool true) ∧ Below w.heap.size w w' := by
  have hflen := form_len ok
  have PU := Lib.hid (fun (A : Option Addr) (n c : Nat) (bs : List Int) (W : World) h1 h2 h3 h4 => K.put A n c bs s W h1 h2 h3 h4 ok)
  have RM := Lib.hid (fun W => rmay_any s W ok)
  have KN := Lib.hid (fun W => known_spec K W)
  have KB := Lib.hid K
  have OK := Lib.hid ok
  have HY := Lib.hid hy
  have H0 := Lib.hid h0
  have HB := Lib.hid (box_new w ok.len)
  have B := Lib.hid ((Below.refl w.heap.size w).alloc (Nat.le_refl _) (.cells s.cells 25))
  have R := Lib.hid (h.below ((Below.refl w.heap.size w).alloc (Nat.le_refl _) (.cells s.cells 25)))
  have hasl := h.1
  clear K ok hy h0 h
  cases hm : mayB s
  · have BF := Lib.hid (fun W => KB.out.bytesF s W OK.out hm)
    rw [hm] at PU RM
    simp only [Bool.false_eq_true, if_false, List.append_nil] at PU
    clear KB OK hm hflen
    go_enter Try.func4, Try.ntmps4
    go_wp2_with ((with_reducible refine wl_load_sp w.heap.size HB.out ?_ ?_ ?_); rfl; rfl)
    refine (BF.out _).mono ?_; rintro e w1 ⟨A1, c1, rfl, q⟩
    have X := Lib.hid (show W2 w w1 s A n c ah none 0 0 [] from ⟨HB.out.below q, B.out.trans (q.mono B.out.size), R.out.below q, rdb_none w1⟩)
    clear q HB B R BF
    go_wp2_with fail
    refine wp_region_held_drew (S := fun U => Below w1.heap.size w1 U) (by kernel_rfl) (Below.refl _ _).drew (fun hH => ?_)
    generalize w1.drew = wd at hH ⊢
    have hwd := hH.size
    refine wpAnyH_take (i := 1) (v := .slice A n c) rfl (by kernel_rfl) (by kernel_rfl) (by kernel_rfl) (fun _ _ _ h => h) (.inl ⟨by rfl, ?_⟩) (by assumption) ?_
    · intro W hW; go_simp
    try simp only [List.getElem_toArray, List.getElem_cons_zero, List.getElem_cons_succ, Act.put, List.setIfInBounds_toArray, List.set_cons_zero, List.set_cons_succ]
    refine wpAnyH_take (i := 3) (v := .agg s.cells) rfl (by kernel_rfl) (by kernel_rfl) (by kernel_rfl) (fun _ _ _ h => h) (yields_load_sp (by rfl) (.tmp 2) rfl w.heap.size rfl (fun W hW => X.out.box.below hW)) (by assumption) ?_
    try simp only [List.getElem_toArray, List.getElem_cons_zero, List.getElem_cons_succ, Act.put, List.setIfInBounds_toArray, List.set_cons_zero, List.set_cons_succ]
    refine wpAnyH_ready (rs := [0]) (by decide +kernel) (by simp) (AllReadyH.cons rfl (fun KQ hK => ?_) AllReadyH.nil)
    go_simp
    have O := own_none wd
    have hH := hH.alloc hH.size (.cells #[] 5)
    refine hK.out _ _ hH (fun _ => ?_)
    clear hK
    try simp only [List.setIfInBounds_toArray, List.set_cons_zero, List.set_cons_succ]
    refine wpAnyH_ready (rs := [2]) (by decide +kernel) (by simp) (AllReadyH.cons rfl (fun KQ hK => ?_) AllReadyH.nil)
    refine step_pt rfl (.tmp 17) (.tmp 18) rfl wd.heap.size (.slice (some ⟨wd.heap.size, 0, none⟩) 0 0) 0 [] rfl O A n c ah rfl (X.out.ahead.below hH) H0.out (by omega) (one_alloc _ _) ?_
    intro v' w3 o3 g3
    have hH := hH.grown g3 hH.size (by intro k hk; simp [Value.ownBlock] at hk; omega)
    have o4 : w3.ownsRow wd.heap.size 5 1 v' ah.length (ah.map (Value.int .u8)) := by rw [hasl]; simpa using o3
    obtain ⟨A3, c3, rfl, r3, n3⟩ := owns_pt o4
    have R3 := Lib.hid r3
    have N3 := Lib.hid n3
    rw [hasl] at R3 N3 ⊢
    clear o3 o4 g3 r3 n3 O
    refine hK.out _ _ hH (fun _ => ?_)
    clear hK
    try simp only [List.setIfInBounds_toArray, List.set_cons_zero, List.set_cons_succ]
    refine wpAnyH_ready (rs := [4]) (by decide +kernel) (by simp) (AllReadyH.cons rfl (fun KQ hK => ?_) AllReadyH.nil)
    go_simp
    refine (PU.out A3 n c3 ah w3 R3.out HY.out N3.out (by omega)).mono ?_; rintro e0 w4 ⟨A2, c2, rfl, r4, q4⟩
    have hH := hH.trans (q4.mono hH.size)
    have HP := Lib.hid r4
    clear q4 r4 R3 N3
    rw [hasl] at HP ⊢
    refine hK.out _ _ hH (fun _ => ?_)
    clear hK
    try simp only [List.setIfInBounds_toArray, List.set_cons_zero, List.set_cons_succ]
    refine wpAnyH_take (i := 5) (v := .slice A2 n c2) rfl (by kernel_rfl) (by kernel_rfl) (by kernel_rfl) (fun _ _ _ h => h) (.inl ⟨by rfl, ?_⟩) (by assumption) ?_
    · intro W hW; go_simp
    try simp only [List.getElem_toArray, List.getElem_cons_zero, List.getElem_cons_succ, Act.put, List.setIfInBounds_toArray, List.set_cons_zero, List.set_cons_succ]
    refine wpAnyH_done (by decide +kernel) ?_ _
    have X2 := Lib.hid (X.out.below hH)
    clear hH X
    go_wp2_with ((with_reducible refine wl_load_sp w.heap.size X2.out.box ?_ ?_ ?_); rfl; rfl)
    refine (RM.out _).mono ?_; rintro e w5 ⟨rfl, q⟩
    have X3 := Lib.hid (X2.out.below q)
    have HP3 := Lib.hid (HP.out.below q)
    clear q X2 HP
    have k1 := conv_any (c := c2) HP3.out
    have k2 := conv_any (c := c) X3.out.ahead
    go_wp2_with fail
    refine (KN.out _).mono ?_; rintro e w6 ⟨rfl, q⟩
    have B6 := Lib.hid (X3.out.q.trans (q.mono X3.out.q.size))
    clear q k1 k2
    go_wp2_with fail
    go_ret
    exact ⟨rfl, B6.out⟩
  · have BT := Lib.hid (fun W => KB.out.bytesT s W OK.out hm)
    have FM := Lib.hid (fun W => rform_any s W OK.out hm)
    rw [hm] at PU RM
    simp only [if_true] at PU
    have HFB := Lib.hid (form_by s)
    obtain ⟨FS, hFS⟩ : ∃ FS, form s = FS := ⟨_, rfl⟩
    rw [hFS] at BT FM PU hflen HFB
    clear KB OK hm hFS
    go_enter Try.func4, Try.ntmps4
    go_wp2_with ((with_reducible refine wl_load_sp w.heap.size HB.out ?_ ?_ ?_); rfl; rfl)
    refine (BT.out _).mono ?_; rintro e w1 ⟨v, rfl, hN⟩
    obtain ⟨A1, c1, rfl, r1⟩ := hN.rd
    have X := Lib.hid (show W2 w w1 s A n c ah A1 FS.length c1 FS from ⟨HB.out.below hN.q, B.out.trans (hN.q.mono B.out.size), R.out.below hN.q, r1⟩)
    obtain ⟨fl, hfl⟩ : ∃ fl, FS.length = fl := ⟨_, rfl⟩
    rw [hfl] at X hflen ⊢
    have HFL := Lib.hid hfl
    clear hN r1 HB B R BT hfl
    go_wp2_with fail
    refine wp_region_held_drew (S := fun U => Below w1.heap.size w1 U) (by kernel_rfl) (Below.refl _ _).drew (fun hH => ?_)
    generalize w1.drew = wd at hH ⊢
    have hwd := hH.size
    refine wpAnyH_take (i := 1) (v := .slice A n c) rfl (by kernel_rfl) (by kernel_rfl) (by kernel_rfl) (fun _ _ _ h => h) (.inl ⟨by rfl, ?_⟩) (by assumption) ?_
    · intro W hW; go_simp
    try simp only [List.getElem_toArray, List.getElem_cons_zero, List.getElem_cons_succ, Act.put, List.setIfInBounds_toArray, List.set_cons_zero, List.set_cons_succ]
    refine wpAnyH_take (i := 3) (v := .agg s.cells) rfl (by kernel_rfl) (by kernel_rfl) (by kernel_rfl) (fun _ _ _ h => h) (yields_load_sp (by rfl) (.tmp 2) rfl w.heap.size rfl (fun W hW => X.out.box.below hW)) (by assumption) ?_
    try simp only [List.getElem_toArray, List.getElem_cons_zero, List.getElem_cons_succ, Act.put, List.setIfInBounds_toArray, List.set_cons_zero, List.set_cons_succ]
    refine wpAnyH_ready (rs := [0]) (by decide +kernel) (by simp) (AllReadyH.cons rfl (fun KQ hK => ?_) AllReadyH.nil)
    go_simp
    have O := own_none wd
    have hH := hH.alloc hH.size (.cells #[] 5)
    refine hK.out _ _ hH (fun _ => ?_)
    clear hK
    try simp only [List.setIfInBounds_toArray, List.set_cons_zero, List.set_cons_succ]
    refine wpAnyH_ready (rs := [2]) (by decide +kernel) (by simp) (AllReadyH.cons rfl (fun KQ hK => ?_) AllReadyH.nil)
    refine step_pt rfl (.tmp 17) (.tmp 18) rfl wd.heap.size (.slice (some ⟨wd.heap.size, 0, none⟩) 0 0) 0 [] rfl O A n c ah rfl (X.out.ahead.below hH) H0.out (by omega) (one_alloc _ _) ?_
    intro v' w3 o3 g3
    have hH := hH.grown g3 hH.size (by intro k hk; simp [Value.ownBlock] at hk; omega)
    have o4 : w3.ownsRow wd.heap.size 5 1 v' ah.length (ah.map (Value.int .u8)) := by rw [hasl]; simpa using o3
    obtain ⟨A3, c3, rfl, r3, n3⟩ := owns_pt o4
    have R3 := Lib.hid r3
    have N3 := Lib.hid n3
    rw [hasl] at R3 N3 ⊢
    clear o3 o4 g3 r3 n3 O
    refine hK.out _ _ hH (fun _ => ?_)
    clear hK
    try simp only [List.setIfInBounds_toArray, List.set_cons_zero, List.set_cons_succ]
    refine wpAnyH_ready (rs := [4]) (by decide +kernel) (by simp) (AllReadyH.cons rfl (fun KQ hK => ?_) AllReadyH.nil)
    go_simp
    refine (PU.out A3 n c3 ah w3 R3.out HY.out N3.out (by omega)).mono ?_; rintro e0 w4 ⟨A2, c2, rfl, r4, q4⟩
    have hH := hH.trans (q4.mono hH.size)
    have HP := Lib.hid r4
    clear q4 r4 R3 N3
    obtain ⟨tl, htl⟩ : ∃ tl, (ah ++ FS).length = tl := ⟨_, rfl⟩
    rw [htl] at HP ⊢
    clear htl
    refine hK.out _ _ hH (fun _ => ?_)
    clear hK
    try simp only [List.setIfInBounds_toArray, List.set_cons_zero, List.set_cons_succ]
    refine wpAnyH_take (i := 5) (v := .slice A2 tl c2) rfl (by kernel_rfl) (by kernel_rfl) (by kernel_rfl) (fun _ _ _ h => h) (.inl ⟨by rfl, ?_⟩) (by assumption) ?_
    · intro W hW; go_simp
    try simp only [List.getElem_toArray, List.getElem_cons_zero, List.getElem_cons_succ, Act.put, List.setIfInBounds_toArray, List.set_cons_zero, List.set_cons_succ]
    refine wpAnyH_done (by decide +kernel) ?_ _
    have X2 := Lib.hid (X.out.below hH)
    clear hH X
    go_wp2_with ((with_reducible refine wl_load_sp w.heap.size X2.out.box ?_ ?_ ?_); rfl; rfl)
    refine (RM.out _).mono ?_; rintro e w5 ⟨rfl, q⟩
    have X3 := Lib.hid (X2.out.below q)
    have HP3 := Lib.hid (HP.out.below q)
    clear q X2 HP
    go_wp2_with fail
    refine wp_region_held_drew (S := fun U => Below w5.heap.size w5 U) (by kernel_rfl) (Below.refl _ _).drew (fun hH => ?_)
    refine wpAnyH_take (i := 0) (v := .int .i64 0) rfl (by kernel_rfl) (by kernel_rfl) (by kernel_rfl) (fun _ _ _ h => h) (.inl ⟨by rfl, ?_⟩) (by assumption) ?_
    · intro W hW; go_simp
    try simp only [List.getElem_toArray, List.getElem_cons_zero, Act.put, List.setIfInBounds_toArray, List.set_cons_zero, List.set_cons_succ]
    refine wpAnyH_take (i := 1) (v := .bool true) rfl (by kernel_rfl) (by kernel_rfl) (by kernel_rfl) (fun _ _ _ h => h) (.inl ⟨by rfl, ?_⟩) (by assumption) ?_
    · intro W hW; go_simp
    try simp only [List.getElem_toArray, List.getElem_cons_zero, List.getElem_cons_succ, Act.put, List.setIfInBounds_toArray, List.set_cons_zero, List.set_cons_succ]
    refine wpAnyH_take (i := 2) (v := .bool true) rfl (by kernel_rfl) (by kernel_rfl) (by kernel_rfl) (fun _ _ _ h => h) (.inl ⟨by rfl, ?_⟩) (by assumption) ?_
    · intro W hW; go_simp
    try simp only [List.getElem_toArray, List.getElem_cons_zero, List.getElem_cons_succ, Act.put, List.setIfInBounds_toArray, List.set_cons_zero, List.set_cons_succ]
    refine wpAnyH_take (i := 3) (v := .slice A1 fl c1) rfl (by kernel_rfl) (by kernel_rfl) (by kernel_rfl) (fun _ _ _ h => h) (.inl ⟨by rfl, ?_⟩) (by assumption) ?_
    · intro W hW; go_simp
    try simp only [List.getElem_toArray, List.getElem_cons_zero, List.getElem_cons_succ, Act.put, List.setIfInBounds_toArray, List.set_cons_zero, List.set_cons_succ]
    refine wpAnyH_take (i := 4) (v := .string (strOfNums FS)) rfl (by kernel_rfl) (by kernel_rfl) (by kernel_rfl) (fun _ _ _ h => h) (.inl ⟨by rfl, ?_⟩) (by assumption) ?_
    · intro W hW; have k0 := conv_any (c := c1) (X3.out.told.below hW); go_simp
    try simp only [List.getElem_toArray, List.getElem_cons_zero, List.getElem_cons_succ, Act.put, List.setIfInBounds_toArray, List.set_cons_zero, List.set_cons_succ]
    refine wpAnyH_take (i := 5) (v := .agg s.cells) rfl (by kernel_rfl) (by kernel_rfl) (by kernel_rfl) (fun _ _ _ h => h) (yields_load_sp (by rfl) (.tmp 2) rfl w.heap.size rfl (fun W hW => X3.out.box.below hW)) (by assumption) ?_
    try simp only [List.getElem_toArray, List.getElem_cons_zero, List.getElem_cons_succ, Act.put, List.setIfInBounds_toArray, List.set_cons_zero, List.set_cons_succ]
    refine wpAnyH_ready (rs := [6]) (by decide +kernel) (by simp) (AllReadyH.cons rfl (fun KQ hK => ?_) AllReadyH.nil)
    go_simp
    refine (FM.out _).mono ?_; rintro e0 W1 ⟨v, rfl, hN⟩
    obtain ⟨A6, c6, rfl, r6⟩ := hN.rd
    have hH := hH.trans (hN.q.mono hH.size)
    have R6 := Lib.hid r6
    rw [HFL.out] at R6 ⊢
    clear hN r6
    refine hK.out _ _ hH (fun _ => ?_)
    clear hK
    try simp only [List.setIfInBounds_toArray, List.set_cons_zero, List.set_cons_succ]
    refine wpAnyH_more (S1 := fun U => Below W1.heap.size W1 U) (fun U b => hH.trans (b.mono hH.size)) _ _ _ _ ?_
    have X4 := Lib.hid (X3.out.below hH)
    have HP4 := Lib.hid (HP3.out.below hH)
    clear X3 HP3
    have X3 := X4
    have HP3 := HP4
    clear X4 HP4
    have HQ6 := Lib.hid hH
    clear hH
    have hH := Below.refl W1.heap.size W1
    refine wpAnyH_take (i := 7) (v := .string (strOfNums FS)) rfl (by kernel_rfl) (by kernel_rfl) (by kernel_rfl) (fun _ _ _ h => h) (.inl ⟨by rfl, ?_⟩) (by assumption) ?_
    · intro W hW; have k0 := conv_any (c := c6) (R6.out.below hW); go_simp
    try simp only [List.getElem_toArray, List.getElem_cons_zero, List.getElem_cons_succ, Act.put, List.setIfInBounds_toArray, List.set_cons_zero, List.set_cons_succ]
    refine wpAnyH_take (i := 8) (v := .bool true) rfl (by kernel_rfl) (by kernel_rfl) (by kernel_rfl) (fun _ _ _ h => h) (.inl ⟨by rfl, ?_⟩) (by assumption) ?_
    · intro W hW; go_simp
    try simp only [List.getElem_toArray, List.getElem_cons_zero, List.getElem_cons_succ, Act.put, List.setIfInBounds_toArray, List.set_cons_zero, List.set_cons_succ]
    refine wpAnyH_take (i := 9) (v := .bool true) rfl (by kernel_rfl) (by kernel_rfl) (by kernel_rfl) (fun _ _ _ h => h) (.inl ⟨by rfl, ?_⟩) (by assumption) ?_
    · intro W hW; go_simp
    try simp only [List.getElem_toArray, List.getElem_cons_zero, List.getElem_cons_succ, Act.put, List.setIfInBounds_toArray, List.set_cons_zero, List.set_cons_succ]
    refine wpAnyH_take (i := 10) (v := .bool true) rfl (by kernel_rfl) (by kernel_rfl) (by kernel_rfl) (fun _ _ _ h => h) (.inl ⟨by rfl, ?_⟩) (by assumption) ?_
    · intro W hW; go_simp
    try simp only [List.getElem_toArray, List.getElem_cons_zero, List.getElem_cons_succ, Act.put, List.setIfInBounds_toArray, List.set_cons_zero, List.set_cons_succ]
    refine wpAnyH_take (i := 11) (v := .slice A2 tl c2) rfl (by kernel_rfl) (by kernel_rfl) (by kernel_rfl) (fun _ _ _ h => h) (.inl ⟨by rfl, ?_⟩) (by assumption) ?_
    · intro W hW; go_simp
    try simp only [List.getElem_toArray, List.getElem_cons_zero, List.getElem_cons_succ, Act.put, List.setIfInBounds_toArray, List.set_cons_zero, List.set_cons_succ]
    refine wpAnyH_take (i := 12) (v := .string (strOfNums (ah ++ FS))) rfl (by kernel_rfl) (by kernel_rfl) (by kernel_rfl) (fun _ _ _ h => h) (.inl ⟨by rfl, ?_⟩) (by assumption) ?_
    · intro W hW; have k0 := conv_any (c := c2) (HP3.out.below hW); go_simp
    try simp only [List.getElem_toArray, List.getElem_cons_zero, List.getElem_cons_succ, Act.put, List.setIfInBounds_toArray, List.set_cons_zero, List.set_cons_succ]
    refine wpAnyH_take (i := 13) (v := .slice A n c) rfl (by kernel_rfl) (by kernel_rfl) (by kernel_rfl) (fun _ _ _ h => h) (.inl ⟨by rfl, ?_⟩) (by assumption) ?_
    · intro W hW; go_simp
    try simp only [List.getElem_toArray, List.getElem_cons_zero, List.getElem_cons_succ, Act.put, List.setIfInBounds_toArray, List.set_cons_zero, List.set_cons_succ]
    refine wpAnyH_take (i := 14) (v := .string (strOfNums ah)) rfl (by kernel_rfl) (by kernel_rfl) (by kernel_rfl) (fun _ _ _ h => h) (.inl ⟨by rfl, ?_⟩) (by assumption) ?_
    · intro W hW; have k0 := conv_any (c := c) (X3.out.ahead.below hW); go_simp
    try simp only [List.getElem_toArray, List.getElem_cons_zero, List.getElem_cons_succ, Act.put, List.setIfInBounds_toArray, List.set_cons_zero, List.set_cons_succ]
    refine wpAnyH_take (i := 15) (v := .agg s.cells) rfl (by kernel_rfl) (by kernel_rfl) (by kernel_rfl) (fun _ _ _ h => h) (yields_load_sp (by rfl) (.tmp 2) rfl w.heap.size rfl (fun W hW => X3.out.box.below hW)) (by assumption) ?_
    try simp only [List.getElem_toArray, List.getElem_cons_zero, List.getElem_cons_succ, Act.put, List.setIfInBounds_toArray, List.set_cons_zero, List.set_cons_succ]
    refine wpAnyH_ready (rs := [16]) (by decide +kernel) (by simp) (AllReadyH.cons rfl (fun KQ hK => ?_) AllReadyH.nil)
    go_simp
    refine (FM.out _).mono ?_; rintro e0 W1 ⟨v, rfl, hN⟩
    obtain ⟨A7, c7, rfl, r7⟩ := hN.rd
    have hH := hH.trans (hN.q.mono hH.size)
    have R7 := Lib.hid r7
    rw [HFL.out] at R7 ⊢
    clear hN r7
    refine hK.out _ _ hH (fun _ => ?_)
    clear hK
    try simp only [List.setIfInBounds_toArray, List.set_cons_zero, List.set_cons_succ]
    refine wpAnyH_more (S1 := fun U => Below W1.heap.size W1 U) (fun U b => hH.trans (b.mono hH.size)) _ _ _ _ ?_
    have X4 := Lib.hid (X3.out.below hH)
    have HP4 := Lib.hid (HP3.out.below hH)
    clear X3 HP3
    have X3 := X4
    have HP3 := HP4
    clear X4 HP4
    have HQ7 := Lib.hid hH
    clear hH
    have hH := Below.refl W1.heap.size W1
    refine wpAnyH_take (i := 17) (v := .string (strOfNums FS)) rfl (by kernel_rfl) (by kernel_rfl) (by kernel_rfl) (fun _ _ _ h => h) (.inl ⟨by rfl, ?_⟩) (by assumption) ?_
    · intro W hW; have k0 := conv_any (c := c7) (R7.out.below hW); go_simp
    try simp only [List.getElem_toArray, List.getElem_cons_zero, List.getElem_cons_succ, Act.put, List.setIfInBounds_toArray, List.set_cons_zero, List.set_cons_succ]
    refine wpAnyH_take (i := 18) (v := .string (strOfNums (ah ++ FS))) rfl (by kernel_rfl) (by kernel_rfl) (by kernel_rfl) (fun _ _ _ h => h) (.inl ⟨by rfl, ?_⟩) (by assumption) ?_
    · intro W hW; go_simp; rw [str_append, if_neg (by rw [str_len, str_len, hasl, HFL.out]; omega)]
    try simp only [List.getElem_toArray, List.getElem_cons_zero, List.getElem_cons_succ, Act.put, List.setIfInBounds_toArray, List.set_cons_zero, List.set_cons_succ]
    refine wpAnyH_take (i := 19) (v := .bool true) rfl (by kernel_rfl) (by kernel_rfl) (by kernel_rfl) (fun _ _ _ h => h) (.inl ⟨by rfl, ?_⟩) (by assumption) ?_
    · intro W hW; go_simp
    try simp only [List.getElem_toArray, List.getElem_cons_zero, List.getElem_cons_succ, Act.put, List.setIfInBounds_toArray, List.set_cons_zero, List.set_cons_succ]
    refine wpAnyH_take (i := 20) (v := .bool true) rfl (by kernel_rfl) (by kernel_rfl) (by kernel_rfl) (fun _ _ _ h => h) (.inl ⟨by rfl, ?_⟩) (by assumption) ?_
    · intro W hW; go_simp
    try simp only [List.getElem_toArray, List.getElem_cons_zero, List.getElem_cons_succ, Act.put, List.setIfInBounds_toArray, List.set_cons_zero, List.set_cons_succ]
    refine wpAnyH_take (i := 21) (v := .bool true) rfl (by kernel_rfl) (by kernel_rfl) (by kernel_rfl) (fun _ _ _ h => h) (.inl ⟨by rfl, ?_⟩) (by assumption) ?_
    · intro W hW; go_simp
    try simp only [List.getElem_toArray, List.getElem_cons_zero, List.getElem_cons_succ, Act.put, List.setIfInBounds_toArray, List.set_cons_zero, List.set_cons_succ]
    refine wpAnyH_ready (rs := [22]) (by decide +kernel) (by simp) (AllReadyH.cons rfl (fun KQ hK => ?_) AllReadyH.nil)
    go_simp
    refine (KN.out _).mono ?_; rintro e0 W1 ⟨rfl, q1⟩
    have hH := hH.trans (q1.mono hH.size)
    refine hK.out _ _ hH (fun _ => ?_)
    clear hK q1
    try simp only [List.setIfInBounds_toArray, List.set_cons_zero, List.set_cons_succ]
    refine wpAnyH_take (i := 23) (v := .bool true) rfl (by kernel_rfl) (by kernel_rfl) (by kernel_rfl) (fun _ _ _ h => h) (.inl ⟨by rfl, ?_⟩) (by assumption) ?_
    · intro W hW; go_simp
    try simp only [List.getElem_toArray, List.getElem_cons_zero, List.getElem_cons_succ, Act.put, List.setIfInBounds_toArray, List.set_cons_zero, List.set_cons_succ]
    refine wpAnyH_take (i := 24) (v := .bool true) rfl (by kernel_rfl) (by kernel_rfl) (by kernel_rfl) (fun _ _ _ h => h) (.inl ⟨by rfl, ?_⟩) (by assumption) ?_
    · intro W hW; go_simp
    try simp only [List.getElem_toArray, List.getElem_cons_zero, List.getElem_cons_succ, Act.put, List.setIfInBounds_toArray, List.set_cons_zero, List.set_cons_succ]
    refine wpAnyH_done (by decide +kernel) ?_ _
    have B6 := Lib.hid (X3.out.q.trans (hH.mono X3.out.q.size))
    clear hH
    go_wp2_with fail
    go_ret
    exact ⟨rfl, B6.out⟩
theorem writes_all (K : SpecK) (s : Sp) (A : Option Addr) (n c : Nat) (bs : List Int) (w : World) (ok : s.ok) (h : RdB w A n bs) (hy : By bs) (h0 : A = none → n = 0 ∧ c = 0) (hb : n ≤ 9223372036854775807) : Calls Try.prog 4 #[.agg s.cells, .slice A n c] w fun e w' => e = .returned (.bool true) ∧ Below w.heap.size w w' := by
  by_cases hn : n ≤ 1000
  · exact writes_in K s A n c bs w ok h hy h0 hn
  · exact writes_out K s A n c w hb (by omega)
end Go.Proofs.Ytlnakhbcefmiaaa
