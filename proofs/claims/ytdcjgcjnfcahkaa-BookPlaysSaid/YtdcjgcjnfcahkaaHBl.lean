/- Contracts of the document's plain book: Place. -/
import Derived.Test.YtdcjgcjnfcahkaaHBk
namespace Go.Proofs.Ytdcjgcjnfcahkaa
open Go.RowKit Go.Shelf
set_option linter.unusedVariables false
set_option linter.unusedSimpArgs false

section
variable {w W W5 W6 : World} {B G : Nat} {g : Bool → Nat} {v v5 : Bool → Value} {S T : Sd} {p : Px} {td : List Td} {gn : List Int} {R : Nat} {o : Or} {k c : Int}
/-- Behind other calls, and the result's block written. -/
theorem bkp_comp (h : Bk w B G g v S) (f5 : Fr (gsB g) w W5) (r5 : ∀ b k, (v5 b).ownBlock = some k → (v b).ownBlock = some k ∨ w.heap.size ≤ k) (n5 : ∀ b, (v5 b).ownBlock ≠ some R) (h2 : BkP W5 B G g v5 T p td gn W6) (hR : w.heap.size ≤ R) (hR5 : R < W5.heap.size) (cs : Array Value) : BkP w B G g v T p td gn (W6.setRow R cs) := by
  obtain ⟨v6, b6, f6, r6, i6⟩ := h2
  have f : Fr (fun k => k = R) W6 (W6.setRow R cs) := fr_row (S := fun k => k = R) rfl cs
  have s5 := f5.size
  refine ⟨v6, b6.keep f (by have := h.gl; omega) (fun b => by have := h.gslt b; omega) (fun b k hk e => ?_), (f5.same f6).trans f (fun _ h => h) (fun k hk e => by omega), fun b k hk => ?_, (i6.low s5).fr f (fun k hk e => by have := (i6.lt hk).1; omega)⟩
  · rcases r6 b k hk with c | c
    · exact n5 b (e ▸ c)
    · omega
  · rcases r6 b k hk with c | c
    · exact r5 b k c
    · exact .inr (Nat.le_trans s5 c)
theorem Bk.vrow (h : Bk w B G g v S) (b : Bool) : ∃ A c, w.cell? ⟨g b, 1, none⟩ = some (.slice A (S b).length c) := by
  obtain ⟨l, rs, ms⟩ := h.ps b
  obtain ⟨A, c, e, _⟩ := gown_form rs.own
  refine ⟨A, c, ?_⟩
  rw [cell_of_row _ _ _ _ _ _ rs.blk, ms.len, ← e]; rfl
theorem bpl_no (h : Bk w B G g v S) (q : Below w.heap.size w W) (ha : placeA S o k = c) (hc : c ≠ 0) :
    ∃ p : Px, Ending.returned (.tuple #[.agg (EPx.cells zeroPx).toArray, .int .i64 c]) = .returned (.tuple #[.agg (EPx.cells p).toArray, .int .i64 (placeA S o k)]) ∧ (p.fi = (placeP S o k).fi ∧ p.lf = (placeP S o k).lf) ∧ BkP w B G g v (placeS S o k) p (placeP S o k).td (placeP S o k).gn W := by
  obtain ⟨e1, e2⟩ := pa_no (S := S) (o := o) (k := k) (by rw [ha]; exact hc)
  refine ⟨zeroPx, by rw [ha], ?_⟩
  rw [e1, e2]
  exact ⟨⟨rfl, rfl⟩, v, h.below q, Fr.below q, fun _ _ h => .inl h, Px.Is.zero _ _⟩
theorem bpl_yes (ha : placeA S o k = 0) (hf : p.fi = (comeP S o (restK k)).fi ∧ p.lf = (comeP S o (restK k)).lf) (hb : BkP w B G g v (comeS S o (restK k)) p (comeP S o (restK k)).td (comeP S o (restK k)).gn W) :
    ∃ p' : Px, Ending.returned (.tuple #[.agg (EPx.cells p).toArray, .int .i64 0]) = .returned (.tuple #[.agg (EPx.cells p').toArray, .int .i64 (placeA S o k)]) ∧ (p'.fi = (placeP S o k).fi ∧ p'.lf = (placeP S o k).lf) ∧ BkP w B G g v (placeS S o k) p' (placeP S o k).td (placeP S o k).gn W := by
  obtain ⟨e1, e2⟩ := pa_yes ha
  refine ⟨p, by rw [ha], ?_⟩
  rw [e1, e2]
  exact ⟨hf, hb⟩
theorem known_u8 (hk : 0 ≤ k) (h : knownK k = false) : k = 0 ∨ ((k == 0) = false ∧ decide (4 < k) = true) := by
  rcases known_no h with c | c
  · exact .inl (by omega)
  · exact .inr ⟨beq_eq_false_iff_ne.2 (by omega), decide_eq_true c⟩
end
section
variable {B G : Nat} {g : Bool → Nat} {v : Bool → Value} {S : Sd}
set_option maxRecDepth 100000 in
set_option maxHeartbeats 8000000 in
theorem bplace_any {o : Or} {k : Int} (w : World) (h : Bk w B G g v S) (iv : InvB S) (ok : o.ok) (hk0 : 0 ≤ k) :
    Calls Try.prog 34 #[.pointer (some ⟨G, 0, none⟩), .agg (EO.cells o).toArray, .int .u8 k] w fun e w' => ∃ p : Px, e = .returned (.tuple #[.agg (EPx.cells p).toArray, .int .i64 (placeA S o k)]) ∧ (p.fi = (placeP S o k).fi ∧ p.lf = (placeP S o k).lf) ∧ BkP w B G g v (placeS S o k) p (placeP S o k).td (placeP S o k).gn w' := by
  have hz := zero_or
  have hpz := zero_px
  obtain ⟨W1, hW1, b1, x1, xr, s1⟩ := two_pbx w o
  have h1 := h.below b1
  have x0 : EO.Bx 31 ((w.alloc (.cells (EO.cells o).toArray 31)).alloc (.cells (EPx.cells zeroPx).toArray 49)) w.heap.size o := hW1 ▸ x1
  have RG0 := Lib.hid (gbx_rng x0)
  have MY := Lib.hid (fun W => rmay_o o W ok)
  have HW := Lib.hid hW1
  have B1 := Lib.hid b1
  have S1 := Lib.hid s1
  have XR := Lib.hid fun (W : World) (q : Below W1.heap.size W1 W) => (show EPx.Bx 49 W (w.heap.size + 1) zeroPx from gbx_below xr q)
  have XW := Lib.hid fun (W : World) (q : Below W1.heap.size W1 W) => (show EO.Bx 31 W w.heap.size o from gbx_below x1 q)
  have X0 := Lib.hid fun (W : World) (q : Below W1.heap.size W1 W) => (show W.cell? ⟨w.heap.size, 0, none⟩ = some (.int .u64 o.nu) from gbx_cell (gbx_below x1 q) 0)
  have X1 := Lib.hid fun (W : World) (q : Below W1.heap.size W1 W) => (show W.cell? ⟨w.heap.size, 1, none⟩ = some (.int .u32 o.ac) from gbx_cell (gbx_below x1 q) 1)
  have X2 := Lib.hid fun (W : World) (q : Below W1.heap.size W1 W) => (show W.cell? ⟨w.heap.size, 2, none⟩ = some (.bool o.bu) from gbx_cell (gbx_below x1 q) 2)
  have X3 := Lib.hid fun (W : World) (q : Below W1.heap.size W1 W) => (show W.cell? ⟨w.heap.size, 3, none⟩ = some (.int .i64 o.pr) from gbx_cell (gbx_below x1 q) 3)
  have HB := Lib.hid fun (W : World) (q : Below W1.heap.size W1 W) => h1.below q
  have GT := Lib.hid fun (W : World) (q : Below W1.heap.size W1 W) => bat_any W (h1.below q) ok.nu
  have OKP : Hid (I64' o.pr) := Lib.hid ok.pr
  have OKA : Hid (0 ≤ o.ac ∧ o.ac ≤ 4294967295) := Lib.hid ok.ac
  have HH := Lib.hid h
  have GS := Lib.hid fun b => h.gslt b
  have CM := Lib.hid fun (W : World) (q : Below W1.heap.size W1 W) (hm : mayO o = true) => bcome_any (k := k) W (h1.below q) (iv.inv _) ok hm
  have EA := Lib.hid (pa_arg (S := S) (o := o) (k := k))
  have ET2 := Lib.hid (pa_two (S := S) (o := o) (k := k))
  have EE := Lib.hid (pa_else (S := S) (o := o) (k := k))
  have KK := Lib.hid (known_k (k := k))
  have KU := Lib.hid (known_u8 hk0)
  have TW := Lib.hid (take_two S o.nu)
  have NO := Lib.hid fun (W : World) (c : Int) (q : Below w.heap.size w W) (ha : placeA S o k = c) (hc : c ≠ 0) => bpl_no h q ha hc
  have YES := Lib.hid fun (p : Px) (W : World) => bpl_yes (p := p) (S := S) (o := o) (k := k) (w := w) (W := W) (B := B) (G := G) (g := g) (v := v)
  have VL := Lib.hid fun (b : Bool) (j : Nat) (hj : (v b).ownBlock = some j) => h.vlt hj
  obtain ⟨r, hr⟩ : ∃ r, sumR (!o.bu) (S (!o.bu)) o.pr o.ac = r := ⟨_, rfl⟩
  obtain ⟨m, hm⟩ : ∃ m, (S o.bu).length = m := ⟨_, rfl⟩
  obtain ⟨le, hle⟩ : ∃ le, o.le = le := ⟨_, rfl⟩
  rw [hr, hm, hle] at EE
  have X4 := Lib.hid fun (W : World) (q : Below W1.heap.size W1 W) => (show W.cell? ⟨w.heap.size, 4, none⟩ = some (.int .i64 le) by rw [← hle]; exact gbx_cell (gbx_below x1 q) 4)
  have RC := Lib.hid fun (W : World) (q : Below W1.heap.size W1 W) => (show Calls Try.prog 57 #[.pointer (some ⟨g (!o.bu), 0, none⟩), .int .i64 o.pr, .int .u32 o.ac] W fun e w' => e = .returned (.int .i64 r) ∧ Below W.heap.size W w' by rw [← hr]; exact preach ((h1.below q).ps (!o.bu)) ok.pr ok.ac)
  have VR := Lib.hid fun (W : World) (q : Below W1.heap.size W1 W) => (show ∃ A c, W.cell? ⟨g o.bu, 1, none⟩ = some (.slice A m c) by rw [← hm]; exact (h1.below q).vrow o.bu)
  clear h iv ok h1 x1 x0 xr b1 hW1 hr hm hle s1
  cases hm : mayO o
  · have ev := EA.out (.inl hm)
    rw [hm] at MY
    clear EA ET2 EE KK KU TW RC VR CM YES
    go_enter Try.func34, Try.ntmps34
    go_wp2_with ((with_reducible refine gwl_load TO w.heap.size 0 RG0.out ?_ ?_ ?_); rfl; rfl)
    rw [HW.out]
    refine (MY.out _).mono ?_; rintro e w2 ⟨rfl, q2⟩
    have Q := Lib.hid q2
    clear q2
    have EV := Lib.hid ev
    have X9 := Lib.hid (XR.out _ Q.out)
    have B9 := Lib.hid (B1.out.trans (Q.out.mono B1.out.size))
    clear ev
    go_wp2_with (first | (refine wl_build0_px ?_) | (refine wl_store_px zeroPx (w.heap.size + 1) X9.out rfl rfl ?_))
    refine bodyPost_ret (ret_px2 rfl _ _ (w.heap.size + 1) rfl rfl (gbx_set X9.out)) rfl ?_
    exact NO.out _ 2 (below_row0 B9.out (by omega)) EV.out (by decide)
  rw [hm] at MY
  have HM := Lib.hid hm
  cases hk : knownK k
  · have ev := EA.out (.inr hk)
    have ku := KU.out hk
    clear EA ET2 EE KK KU TW RC VR CM YES
    rcases ku with rfl | ⟨u1, u2⟩
    all_goals
      go_enter Try.func34, Try.ntmps34
      go_wp2_with ((with_reducible refine gwl_load TO w.heap.size 0 RG0.out ?_ ?_ ?_); rfl; rfl)
      rw [HW.out]
      refine (MY.out _).mono ?_; rintro e w2 ⟨rfl, q2⟩
      have Q := Lib.hid q2
      clear q2
      have EV := Lib.hid ev
      have X9 := Lib.hid (XR.out _ Q.out)
      have B9 := Lib.hid (B1.out.trans (Q.out.mono B1.out.size))
      clear ev
      go_wp2_with (first | (refine wl_build0_px ?_) | (refine wl_store_px zeroPx (w.heap.size + 1) X9.out rfl rfl ?_))
      refine bodyPost_ret (ret_px2 rfl _ _ (w.heap.size + 1) rfl rfl (gbx_set X9.out)) rfl ?_
      exact NO.out _ 2 (below_row0 B9.out (by omega)) EV.out (by decide)
  have hk4 := KK.out hk
  have E2 := Lib.hid (ET2.out hm hk)
  have E3 := Lib.hid (EE.out hm hk)
  clear EA ET2 EE KK KU hm hk
  have KC : ∃ k0 k9, (k == 0) = k0 ∧ decide (4 < k) = k9 ∧ k0 = false ∧ k9 = false := ⟨_, _, rfl, rfl, beq_eq_false_iff_ne.2 (by omega), decide_eq_false (by omega)⟩
  obtain ⟨k0, k9, hk1, hk2, rfl, rfl⟩ := KC
  generalize takeA S o.nu = ga at *
  generalize takeX S o.nu = xa at *
  rcases TW.out with rfl | rfl
  · have ev := E2.out rfl
    clear E2 E3 TW RC VR CM YES
    go_enter Try.func34, Try.ntmps34
    go_wp2_with ((with_reducible refine gwl_load TO w.heap.size 0 RG0.out ?_ ?_ ?_); rfl; rfl)
    rw [HW.out]
    refine (MY.out _).mono ?_; rintro e w2 ⟨rfl, q2⟩
    have k0 := X0.out _ q2
    have Q2 := Lib.hid q2
    clear q2
    go_wp2_with fail
    refine (GT.out _ Q2.out).mono ?_; rintro e w4 ⟨rfl, q4⟩
    obtain ⟨V, hV, bV, yV, zV, sV⟩ := put_or xa q4
    have HV := Lib.hid hV
    have ZV := Lib.hid zV
    have Q : Hid (Below W1.heap.size W1 V) := Lib.hid (Q2.out.trans (bV.mono Q2.out.size))
    clear q4 hV bV yV zV sV
    have EV := Lib.hid ev
    have X9 := Lib.hid (XR.out _ Q.out)
    have B9 := Lib.hid (B1.out.trans (Q.out.mono B1.out.size))
    clear ev
    go_wp2_with (first | (refine wl_build0_px ?_) | (refine wl_store_px zeroPx (w.heap.size + 1) X9.out rfl rfl ?_) | (refine gwl_store TO xa w4.heap.size ZV.out rfl rfl ?_; rw [HV.out]))
    refine bodyPost_ret (ret_px2 rfl _ _ (w.heap.size + 1) rfl rfl (gbx_set X9.out)) rfl ?_
    exact NO.out _ 8 (below_row0 B9.out (by omega)) EV.out (by decide)
  · have E9 := Lib.hid (E3.out rfl)
    clear E2 E3 TW
    go_enter Try.func34, Try.ntmps34
    go_wp2_with ((with_reducible refine gwl_load TO w.heap.size 0 RG0.out ?_ ?_ ?_); rfl; rfl)
    rw [HW.out]
    refine (MY.out _).mono ?_; rintro e w2 ⟨rfl, q2⟩
    have k0 := X0.out _ q2
    have Q2 := Lib.hid q2
    clear q2
    go_wp2_with fail
    refine (GT.out _ Q2.out).mono ?_; rintro e w4 ⟨rfl, q4⟩
    obtain ⟨V, hV, bV, yV, zV, sV⟩ := put_or xa q4
    have HV := Lib.hid hV
    have ZV := Lib.hid zV
    have Q4 : Hid (Below W1.heap.size W1 V) := Lib.hid (Q2.out.trans (bV.mono Q2.out.size))
    clear q4 hV bV yV zV sV Q2 GT k0 hk1 hk2
    go_wp2_with (refine gwl_store TO xa w4.heap.size ZV.out rfl rfl ?_; rw [HV.out])
    refine wp_region_held_drew (S := fun U => Below W1.heap.size W1 U) (by kernel_rfl) Q4.out.drew (fun hH => ?_)
    refine wpAnyH_take (i := 0) (v := .pointer (some ⟨G, 0, none⟩)) rfl (by kernel_rfl) (by kernel_rfl) (by kernel_rfl) (fun _ _ _ h => h) (.inl ⟨by rfl, ?_⟩) (by assumption) ?_
    · intro W hW; go_simp
    try simp only [List.getElem_toArray, List.getElem_cons_zero, Act.put, List.setIfInBounds_toArray, List.set_cons_zero, List.set_cons_succ]
    refine wpAnyH_take (i := 1) (v := .pointer (some ⟨w.heap.size, 2, none⟩)) rfl (by kernel_rfl) (by kernel_rfl) (by kernel_rfl) (fun _ _ _ h => h) (.inl ⟨by rfl, ?_⟩) (by assumption) ?_
    · intro W hW; go_simp
    try simp only [List.getElem_toArray, List.getElem_cons_zero, List.getElem_cons_succ, Act.put, List.setIfInBounds_toArray, List.set_cons_zero, List.set_cons_succ]
    refine wpAnyH_take (i := 2) (v := .bool o.bu) rfl (by kernel_rfl) (by kernel_rfl) (by kernel_rfl) (fun _ _ _ h => h) (.inl ⟨by rfl, ?_⟩) (by assumption) ?_
    · intro W hW; have k := X2.out W hW; go_simp
    try simp only [List.getElem_toArray, List.getElem_cons_zero, List.getElem_cons_succ, Act.put, List.setIfInBounds_toArray, List.set_cons_zero, List.set_cons_succ]
    refine wpAnyH_take (i := 3) (v := .bool !o.bu) rfl (by kernel_rfl) (by kernel_rfl) (by kernel_rfl) (fun _ _ _ h => h) (.inl ⟨by rfl, ?_⟩) (by assumption) ?_
    · intro W hW; go_simp
    try simp only [List.getElem_toArray, List.getElem_cons_zero, List.getElem_cons_succ, Act.put, List.setIfInBounds_toArray, List.set_cons_zero, List.set_cons_succ]
    refine wpAnyH_take (i := 5) (v := .pointer (some ⟨w.heap.size, 3, none⟩)) rfl (by kernel_rfl) (by kernel_rfl) (by kernel_rfl) (fun _ _ _ h => h) (.inl ⟨by rfl, ?_⟩) (by assumption) ?_
    · intro W hW; go_simp
    try simp only [List.getElem_toArray, List.getElem_cons_zero, List.getElem_cons_succ, Act.put, List.setIfInBounds_toArray, List.set_cons_zero, List.set_cons_succ]
    refine wpAnyH_take (i := 6) (v := .int .i64 o.pr) rfl (by kernel_rfl) (by kernel_rfl) (by kernel_rfl) (fun _ _ _ h => h) (.inl ⟨by rfl, ?_⟩) (by assumption) ?_
    · intro W hW; have k := X3.out W hW; go_simp
    try simp only [List.getElem_toArray, List.getElem_cons_zero, List.getElem_cons_succ, Act.put, List.setIfInBounds_toArray, List.set_cons_zero, List.set_cons_succ]
    refine wpAnyH_take (i := 7) (v := .pointer (some ⟨w.heap.size, 1, none⟩)) rfl (by kernel_rfl) (by kernel_rfl) (by kernel_rfl) (fun _ _ _ h => h) (.inl ⟨by rfl, ?_⟩) (by assumption) ?_
    · intro W hW; go_simp
    try simp only [List.getElem_toArray, List.getElem_cons_zero, List.getElem_cons_succ, Act.put, List.setIfInBounds_toArray, List.set_cons_zero, List.set_cons_succ]
    refine wpAnyH_take (i := 8) (v := .int .u32 o.ac) rfl (by kernel_rfl) (by kernel_rfl) (by kernel_rfl) (fun _ _ _ h => h) (.inl ⟨by rfl, ?_⟩) (by assumption) ?_
    · intro W hW; have k := X1.out W hW; go_simp
    try simp only [List.getElem_toArray, List.getElem_cons_zero, List.getElem_cons_succ, Act.put, List.setIfInBounds_toArray, List.set_cons_zero, List.set_cons_succ]
    refine wpAnyH_ready (rs := [4]) (by decide +kernel) (by simp) (AllReadyH.cons rfl (fun KQ hK => ?_) AllReadyH.nil)
    go_simp
    refine (bown_any (!o.bu) _ (HB.out _ hH)).mono ?_; rintro e0 W1 ⟨rfl, rfl⟩
    have hH := hH
    refine hK.out _ _ hH (fun _ => ?_)
    clear hK 
    try simp only [List.setIfInBounds_toArray, List.set_cons_zero, List.set_cons_succ]
    refine wpAnyH_ready (rs := [9]) (by decide +kernel) (by simp) (AllReadyH.cons rfl (fun KQ hK => ?_) AllReadyH.nil)
    go_simp
    refine (RC.out _ hH).mono ?_; rintro e0 W1 ⟨rfl, q1⟩
    have hH := hH.trans (q1.mono hH.size)
    refine hK.out _ _ hH (fun _ => ?_)
    clear hK q1
    try simp only [List.setIfInBounds_toArray, List.set_cons_zero, List.set_cons_succ]
    refine wpAnyH_take (i := 10) (v := .int .i64 r) rfl (by kernel_rfl) (by kernel_rfl) (by kernel_rfl) (fun _ _ _ h => h) (.inl ⟨by rfl, ?_⟩) (by assumption) ?_
    · intro W hW; go_simp
    try simp only [List.getElem_toArray, List.getElem_cons_zero, List.getElem_cons_succ, Act.put, List.setIfInBounds_toArray, List.set_cons_zero, List.set_cons_succ]
    refine wpAnyH_done (by decide +kernel) ?_ _
    have Q := Lib.hid hH
    have c2 := X2.out _ hH
    have c4 := X4.out _ hH
    obtain ⟨A5, c5, hv5⟩ := VR.out _ hH
    have RG5 := Lib.hid (gbx_rng (XW.out _ hH))
    clear hH X0 X1 X2 X3 X4 RC VR Q4
    rcases hk4 with rfl | rfl | rfl | rfl
    · by_cases c1 : r < le
      · have d1 : decide (r < le) = true := decide_eq_true c1
        by_cases cc : 100 ≤ m
        · have d2 : decide (100 ≤ (m : Int)) = true := decide_eq_true (by omega)
          have ev : placeA S o 1 = 9 := by rw [E9.out]; simp [restK, c1, cc]
          have EV0 := Lib.hid ev
          clear ev E9
          go_wp2_with fail
          refine (bown_any o.bu _ (HB.out _ Q.out)).mono ?_; rintro e w8 ⟨rfl, rfl⟩
          have ev := EV0.out
          have EV := Lib.hid ev
          have X9 := Lib.hid (XR.out _ Q.out)
          have B9 := Lib.hid (B1.out.trans (Q.out.mono B1.out.size))
          clear ev
          go_wp2_with (first | (refine wl_build0_px ?_) | (refine wl_store_px zeroPx (w.heap.size + 1) X9.out rfl rfl ?_))
          refine bodyPost_ret (ret_px2 rfl _ _ (w.heap.size + 1) rfl rfl (gbx_set X9.out)) rfl ?_
          exact NO.out _ 9 (below_row0 B9.out (by omega)) EV.out (by decide)
        · have d2 : decide (100 ≤ (m : Int)) = false := decide_eq_false (by omega)
          have ev : placeA S o 1 = 0 := by rw [E9.out]; simp [restK, c1, cc]
          have EV0 := Lib.hid ev
          clear ev E9
          go_wp2_with fail
          refine (bown_any o.bu _ (HB.out _ Q.out)).mono ?_; rintro e w8 ⟨rfl, rfl⟩
          have ev := EV0.out
          have EV := Lib.hid ev
          clear ev
          go_wp2_with ((with_reducible refine gwl_load TO w.heap.size 0 RG5.out ?_ ?_ ?_); rfl; rfl)
          refine (CM.out _ Q.out HM.out).mono ?_; rintro e W6 ⟨p, rfl, hfl, hbk⟩
          have X6 : Hid (EPx.Bx 49 W6 (w.heap.size + 1) zeroPx) := Lib.hid (by
            obtain ⟨_, _, f, _⟩ := hbk
            exact (f.at' _ (by have := Q.out.size; have := S1.out; omega) (fun ⟨b, e⟩ => by have := GS.out b; omega)).trans (XR.out _ Q.out))
          have FN := Lib.hid (fun cs => bkp_comp (R := w.heap.size + 1) HH.out (Fr.below (B1.out.trans (Q.out.mono B1.out.size))) (fun _ _ h => .inl h) (fun b e => by have := VL.out b _ e; omega) hbk (by omega) (by have := Q.out.size; have := S1.out; omega) cs)
          have HFL := Lib.hid hfl
          clear hfl hbk
          go_wp2_with (refine wl_store_px p (w.heap.size + 1) X6.out rfl rfl ?_)
          refine bodyPost_ret (ret_px2 rfl _ _ (w.heap.size + 1) rfl rfl (gbx_set X6.out)) rfl ?_
          exact YES.out p _ EV.out HFL.out (FN.out _)
      · have d1 : decide (r < le) = false := decide_eq_false c1
        have ev : placeA S o 1 = 0 := by rw [E9.out]; simp [restK, c1]
        have EV := Lib.hid ev
        clear ev
        go_wp2_with ((with_reducible refine gwl_load TO w.heap.size 0 RG5.out ?_ ?_ ?_); rfl; rfl)
        refine (CM.out _ Q.out HM.out).mono ?_; rintro e W6 ⟨p, rfl, hfl, hbk⟩
        have X6 : Hid (EPx.Bx 49 W6 (w.heap.size + 1) zeroPx) := Lib.hid (by
          obtain ⟨_, _, f, _⟩ := hbk
          exact (f.at' _ (by have := Q.out.size; have := S1.out; omega) (fun ⟨b, e⟩ => by have := GS.out b; omega)).trans (XR.out _ Q.out))
        have FN := Lib.hid (fun cs => bkp_comp (R := w.heap.size + 1) HH.out (Fr.below (B1.out.trans (Q.out.mono B1.out.size))) (fun _ _ h => .inl h) (fun b e => by have := VL.out b _ e; omega) hbk (by omega) (by have := Q.out.size; have := S1.out; omega) cs)
        have HFL := Lib.hid hfl
        clear hfl hbk
        go_wp2_with (refine wl_store_px p (w.heap.size + 1) X6.out rfl rfl ?_)
        refine bodyPost_ret (ret_px2 rfl _ _ (w.heap.size + 1) rfl rfl (gbx_set X6.out)) rfl ?_
        exact YES.out p _ EV.out HFL.out (FN.out _)
    · have ev : placeA S o 2 = 0 := by rw [E9.out]; simp [restK]
      have EV := Lib.hid ev
      clear ev
      go_wp2_with ((with_reducible refine gwl_load TO w.heap.size 0 RG5.out ?_ ?_ ?_); rfl; rfl)
      refine (CM.out _ Q.out HM.out).mono ?_; rintro e W6 ⟨p, rfl, hfl, hbk⟩
      have X6 : Hid (EPx.Bx 49 W6 (w.heap.size + 1) zeroPx) := Lib.hid (by
        obtain ⟨_, _, f, _⟩ := hbk
        exact (f.at' _ (by have := Q.out.size; have := S1.out; omega) (fun ⟨b, e⟩ => by have := GS.out b; omega)).trans (XR.out _ Q.out))
      have FN := Lib.hid (fun cs => bkp_comp (R := w.heap.size + 1) HH.out (Fr.below (B1.out.trans (Q.out.mono B1.out.size))) (fun _ _ h => .inl h) (fun b e => by have := VL.out b _ e; omega) hbk (by omega) (by have := Q.out.size; have := S1.out; omega) cs)
      have HFL := Lib.hid hfl
      clear hfl hbk
      go_wp2_with (refine wl_store_px p (w.heap.size + 1) X6.out rfl rfl ?_)
      refine bodyPost_ret (ret_px2 rfl _ _ (w.heap.size + 1) rfl rfl (gbx_set X6.out)) rfl ?_
      exact YES.out p _ EV.out HFL.out (FN.out _)
    · by_cases c1 : r < le
      · have d1 : decide (r < le) = true := decide_eq_true c1
        have ev : placeA S o 3 = 70 := by rw [E9.out]; simp [c1]
        have EV := Lib.hid ev
        have X9 := Lib.hid (XR.out _ Q.out)
        have B9 := Lib.hid (B1.out.trans (Q.out.mono B1.out.size))
        clear ev
        go_wp2_with (first | (refine wl_build0_px ?_) | (refine wl_store_px zeroPx (w.heap.size + 1) X9.out rfl rfl ?_))
        refine bodyPost_ret (ret_px2 rfl _ _ (w.heap.size + 1) rfl rfl (gbx_set X9.out)) rfl ?_
        exact NO.out _ 70 (below_row0 B9.out (by omega)) EV.out (by decide)
      · have d1 : decide (r < le) = false := decide_eq_false c1
        have ev : placeA S o 3 = 0 := by rw [E9.out]; simp [restK, c1]
        have EV := Lib.hid ev
        clear ev
        go_wp2_with ((with_reducible refine gwl_load TO w.heap.size 0 RG5.out ?_ ?_ ?_); rfl; rfl)
        refine (CM.out _ Q.out HM.out).mono ?_; rintro e W6 ⟨p, rfl, hfl, hbk⟩
        have X6 : Hid (EPx.Bx 49 W6 (w.heap.size + 1) zeroPx) := Lib.hid (by
          obtain ⟨_, _, f, _⟩ := hbk
          exact (f.at' _ (by have := Q.out.size; have := S1.out; omega) (fun ⟨b, e⟩ => by have := GS.out b; omega)).trans (XR.out _ Q.out))
        have FN := Lib.hid (fun cs => bkp_comp (R := w.heap.size + 1) HH.out (Fr.below (B1.out.trans (Q.out.mono B1.out.size))) (fun _ _ h => .inl h) (fun b e => by have := VL.out b _ e; omega) hbk (by omega) (by have := Q.out.size; have := S1.out; omega) cs)
        have HFL := Lib.hid hfl
        clear hfl hbk
        go_wp2_with (refine wl_store_px p (w.heap.size + 1) X6.out rfl rfl ?_)
        refine bodyPost_ret (ret_px2 rfl _ _ (w.heap.size + 1) rfl rfl (gbx_set X6.out)) rfl ?_
        exact YES.out p _ EV.out HFL.out (FN.out _)
    · by_cases c0 : 0 < r
      · have d0 : decide (0 < r) = true := decide_eq_true c0
        have ev : placeA S o 4 = 71 := by rw [E9.out]; simp [c0]
        have EV := Lib.hid ev
        have X9 := Lib.hid (XR.out _ Q.out)
        have B9 := Lib.hid (B1.out.trans (Q.out.mono B1.out.size))
        clear ev
        go_wp2_with (first | (refine wl_build0_px ?_) | (refine wl_store_px zeroPx (w.heap.size + 1) X9.out rfl rfl ?_))
        refine bodyPost_ret (ret_px2 rfl _ _ (w.heap.size + 1) rfl rfl (gbx_set X9.out)) rfl ?_
        exact NO.out _ 71 (below_row0 B9.out (by omega)) EV.out (by decide)
      · have d0 : decide (0 < r) = false := decide_eq_false c0
        by_cases c1 : r < le
        · have d1 : decide (r < le) = true := decide_eq_true c1
          by_cases cc : 100 ≤ m
          · have d2 : decide (100 ≤ (m : Int)) = true := decide_eq_true (by omega)
            have ev : placeA S o 4 = 9 := by rw [E9.out]; simp [restK, c0, c1, cc]
            have EV0 := Lib.hid ev
            clear ev E9
            go_wp2_with fail
            refine (bown_any o.bu _ (HB.out _ Q.out)).mono ?_; rintro e w8 ⟨rfl, rfl⟩
            have ev := EV0.out
            have EV := Lib.hid ev
            have X9 := Lib.hid (XR.out _ Q.out)
            have B9 := Lib.hid (B1.out.trans (Q.out.mono B1.out.size))
            clear ev
            go_wp2_with (first | (refine wl_build0_px ?_) | (refine wl_store_px zeroPx (w.heap.size + 1) X9.out rfl rfl ?_))
            refine bodyPost_ret (ret_px2 rfl _ _ (w.heap.size + 1) rfl rfl (gbx_set X9.out)) rfl ?_
            exact NO.out _ 9 (below_row0 B9.out (by omega)) EV.out (by decide)
          · have d2 : decide (100 ≤ (m : Int)) = false := decide_eq_false (by omega)
            have ev : placeA S o 4 = 0 := by rw [E9.out]; simp [restK, c0, c1, cc]
            have EV0 := Lib.hid ev
            clear ev E9
            go_wp2_with fail
            refine (bown_any o.bu _ (HB.out _ Q.out)).mono ?_; rintro e w8 ⟨rfl, rfl⟩
            have ev := EV0.out
            have EV := Lib.hid ev
            clear ev
            go_wp2_with ((with_reducible refine gwl_load TO w.heap.size 0 RG5.out ?_ ?_ ?_); rfl; rfl)
            refine (CM.out _ Q.out HM.out).mono ?_; rintro e W6 ⟨p, rfl, hfl, hbk⟩
            have X6 : Hid (EPx.Bx 49 W6 (w.heap.size + 1) zeroPx) := Lib.hid (by
              obtain ⟨_, _, f, _⟩ := hbk
              exact (f.at' _ (by have := Q.out.size; have := S1.out; omega) (fun ⟨b, e⟩ => by have := GS.out b; omega)).trans (XR.out _ Q.out))
            have FN := Lib.hid (fun cs => bkp_comp (R := w.heap.size + 1) HH.out (Fr.below (B1.out.trans (Q.out.mono B1.out.size))) (fun _ _ h => .inl h) (fun b e => by have := VL.out b _ e; omega) hbk (by omega) (by have := Q.out.size; have := S1.out; omega) cs)
            have HFL := Lib.hid hfl
            clear hfl hbk
            go_wp2_with (refine wl_store_px p (w.heap.size + 1) X6.out rfl rfl ?_)
            refine bodyPost_ret (ret_px2 rfl _ _ (w.heap.size + 1) rfl rfl (gbx_set X6.out)) rfl ?_
            exact YES.out p _ EV.out HFL.out (FN.out _)
        · have d1 : decide (r < le) = false := decide_eq_false c1
          have ev : placeA S o 4 = 0 := by rw [E9.out]; simp [restK, c0, c1]
          have EV := Lib.hid ev
          clear ev
          go_wp2_with ((with_reducible refine gwl_load TO w.heap.size 0 RG5.out ?_ ?_ ?_); rfl; rfl)
          refine (CM.out _ Q.out HM.out).mono ?_; rintro e W6 ⟨p, rfl, hfl, hbk⟩
          have X6 : Hid (EPx.Bx 49 W6 (w.heap.size + 1) zeroPx) := Lib.hid (by
            obtain ⟨_, _, f, _⟩ := hbk
            exact (f.at' _ (by have := Q.out.size; have := S1.out; omega) (fun ⟨b, e⟩ => by have := GS.out b; omega)).trans (XR.out _ Q.out))
          have FN := Lib.hid (fun cs => bkp_comp (R := w.heap.size + 1) HH.out (Fr.below (B1.out.trans (Q.out.mono B1.out.size))) (fun _ _ h => .inl h) (fun b e => by have := VL.out b _ e; omega) hbk (by omega) (by have := Q.out.size; have := S1.out; omega) cs)
          have HFL := Lib.hid hfl
          clear hfl hbk
          go_wp2_with (refine wl_store_px p (w.heap.size + 1) X6.out rfl rfl ?_)
          refine bodyPost_ret (ret_px2 rfl _ _ (w.heap.size + 1) rfl rfl (gbx_set X6.out)) rfl ?_
          exact YES.out p _ EV.out HFL.out (FN.out _)
end
end Go.Proofs.Ytdcjgcjnfcahkaa
