/- The program's book: meet, walked. -/
import Derived.Test.YtdcjgcjnfcahkaaG10
namespace Go.Proofs.Ytdcjgcjnfcahkaa
open Go.RowKit Go.Shelf
set_option linter.unusedVariables false
set_option linter.unusedSimpArgs false

/-- What is told of one that came, the book behind it, its blocks apart from what is told. -/
def BpP (Pd : PdT) (w : World) (G : Nat) (g : Bool → Nat) (F0 : Bool → Nat → Prop) (S : Sd) (t : Nat) (p : Px) (td : List Td) (gn : List Int) (w' : World) : Prop :=
  ∃ F, Bp Pd w' G g F S t ∧ Fr (fun k => ∃ b, F0 b k) w w' ∧ (∀ b k, F b k → F0 b k ∨ w.heap.size ≤ k) ∧ p.Is w' w.heap.size td gn ∧ ∀ b k, F b k → ¬ p.own k
theorem minO_le (a b : Int) : minO a b ≤ a ∧ minO a b ≤ b := by
  unfold minO
  split <;> omega
theorem minO_pos {a b : Int} (ha : 0 < a) (hb : 0 < b) : 0 < minO a b := by
  unfold minO
  split <;> omega
theorem min_eq (a b : Int) : min a b = minO b a := by
  unfold minO
  rw [Int.min_def]
  split <;> split <;> omega
def flagL (left : Int) : Nat := if 0 < left then 1 else 0
/-- Where the loop stands. -/
structure Mr (o : Or) (os0 : List Or) (left : Int) (os : List Or) (td : List Td) (gn : List Int) (fi : Int) (k : Nat) : Prop where
  eq : meetO o os0 o.le = ⟨td ++ (meetO o os left).td, gn ++ (meetO o os left).gn, fi + (meetO o os left).fi, (meetO o os left).lf, (meetO o os left).os⟩
  le : 0 ≤ left
  sm : fi + left = o.le
  fi : 0 ≤ fi
  ln : td.length + gn.length + k ≤ 101
  k : k = os.length + flagL left
section
variable {o x : Or} {os0 os r : List Or} {left fi : Int} {td : List Td} {gn : List Int} {k : Nat}
theorem Mr.stop (h : Mr o os0 left os td gn fi k) (e : meetO o os left = ⟨[], [], 0, left, os⟩) : meetO o os0 o.le = ⟨td, gn, fi, left, os⟩ := by
  have q := h.eq
  rw [e] at q
  simpa using q
theorem Mr.own (h : Mr o os0 left (x :: r) td gn fi k) (h0 : 0 < left) (hm : metO o x = true) (ha : x.ac = o.ac) : Mr o os0 left r td (gn ++ [x.nu]) fi (k - 1) ∧ k - 1 < k := by
  have hk := h.k
  rw [List.length_cons] at hk
  refine ⟨⟨?_, h.le, h.sm, h.fi, by have := h.ln; rw [List.length_append, List.length_singleton]; omega, by omega⟩, by omega⟩
  have q := h.eq
  rw [meet_own h0 hm ha] at q
  rw [q]
  simp
theorem Mr.trade (h : Mr o os0 left (x :: r) td gn fi k) (h0 : 0 < left) (hm : metO o x = true) (ha : x.ac ≠ o.ac) (hx : 0 < x.le) :
    ∃ k', k' < k ∧ Mr o os0 (left - minO x.le left) (fillO (x :: r) (minO x.le left)) (td ++ [⟨x.pr, minO x.le left, x.nu, x.ac⟩]) gn (fi + minO x.le left) k' := by
  obtain ⟨l1, l2⟩ := minO_le x.le left
  have l3 := minO_pos hx h0
  have hk := h.k
  rw [List.length_cons] at hk
  have hf : flagL left = 1 := if_pos h0
  have key : (fillO (x :: r) (minO x.le left)).length + flagL (left - minO x.le left) + 1 ≤ k := by
    by_cases c : x.le ≤ left
    · have e : minO x.le left = x.le := by unfold minO; rw [if_neg (by omega)]
      have e2 : fillO (x :: r) (minO x.le left) = r := by
        rw [e]
        exact (if_neg (by omega)).trans (if_pos (by omega))
      rw [e2]
      have : flagL (left - minO x.le left) ≤ 1 := by unfold flagL; split <;> omega
      omega
    · have e : minO x.le left = left := by unfold minO; rw [if_pos (by omega)]
      have e2 : fillO (x :: r) (minO x.le left) = x.wi (x.le - left) :: r := by
        rw [e]
        exact (if_neg (by omega)).trans (if_neg (by omega))
      rw [e2, e, show flagL (left - left) = 0 from if_neg (by omega), List.length_cons]
      omega
  have hl := h.le
  have hs := h.sm
  have hfi := h.fi
  refine ⟨_, by omega, ⟨?_, by omega, by omega, by omega, by have := h.ln; rw [List.length_append, List.length_singleton]; omega, rfl⟩⟩
  have q := h.eq
  have e := meet_trade (r := r) h0 hm ha hx
  dsimp only at e
  rw [e] at q
  rw [q]
  simp [Int.add_assoc]
end
section
variable {Pd : PdT} {zs : Array Value} {G : Nat} {g : Bool → Nat} {F : Bool → Nat → Prop} {S : Sd} {t : Nat}
theorem Mi.fin (K : SideK Pd zs) {w W : World} {F0 F : Bool → Nat → Prop} {o : Or} {left : Int} {os : List Or} {td : List Td} {gn : List Int} {p : Px} (h : Mi Pd w G g F0 S t o left os td gn p F W) (cs : Array Value) : BpP Pd w G g F0 (S.up (!o.bu) os) t p td gn (W.setRow (w.heap.size + 1) cs) := by
  have f : Fr (fun k => k = w.heap.size + 1) W (W.setRow (w.heap.size + 1) cs) := fr_row (S := fun k => k = w.heap.size + 1) rfl cs
  have hg := h.gl
  refine ⟨F, h.bp.keep K f (fun k hk e => ?_), h.fr.trans f (fun _ h => h) (fun k hk e => by omega), h.fn, h.pi.fr f (fun k hk e => h.nb.2.1 (e ▸ hk)), fun b k hk => (h.ap b k hk).2.2.2⟩
  rcases hk with rfl | ⟨b, hk⟩
  · have := h.gw; omega
  · exact (h.ap b k hk).2.1 e
theorem Mi.pd {w W : World} {F0 F : Bool → Nat → Prop} {o : Or} {left : Int} {os : List Or} {td : List Td} {gn : List Int} {p : Px} (h : Mi Pd w G g F0 S t o left os td gn p F W) : Pd W (F (!o.bu)) (g (!o.bu)) (!o.bu) os t := by
  have := h.bp.pd (!o.bu)
  rwa [Sd.up_at] at this
theorem Mi.row_p {w W w1 w' : World} {F0 F : Bool → Nat → Prop} {o : Or} {left : Int} {os : List Or} {td : List Td} {gn : List Int} {p : Px} {b : Option Nat} (h : Mi Pd w G g F0 S t o left os td gn p F W) (q : Below W.heap.size W w1) (gr : w1.grownBy w' b) (hb : ∀ k, b = some k → p.own k) : EPx.Bx 49 w' (w.heap.size + 1 + 1) p :=
  have hg := h.gl
  (gr.block _ (Nat.lt_of_lt_of_le hg q.size) (fun e => h.nb.2.2 (hb _ e.symm))).trans (gbx_below h.xp q)
set_option maxRecDepth 100000 in
set_option maxHeartbeats 8000000 in
theorem pmeet_any (K : SideK Pd zs) {o : Or} (w : World) (h : Bp Pd w G g F S t) (ok : o.ok) (hm : mayO o = true) :
    Calls Try.prog 42 #[.pointer (some ⟨G, 0, none⟩), .agg (EO.cells o).toArray] w fun e w' => ∃ p : Px, e = .returned (.agg (EPx.cells p).toArray) ∧ p.fi = (metB S o).fi ∧ p.lf = 0 ∧ BpP Pd w G g F (S.up (!o.bu) (metB S o).os) t p (metB S o).td (metB S o).gn w' := by
  have hz := zero_or
  have hp := zero_px
  have KH := Lib.hid K
  obtain ⟨W3, hW3, b3, xo, xr, xp⟩ := three_pbx w o
  have k2 : (((w.alloc (.cells (EO.cells o).toArray 31)).alloc (.cells (EPx.cells zeroPx).toArray 49)).alloc (.cells (EPx.cells zeroPx).toArray 49)).cell? ⟨w.heap.size, 2, none⟩ = some (.bool o.bu) := by rw [hW3]; exact gbx_cell xo 2
  have SDC := Lib.hid (pside_any (!o.bu) (h.below K b3))
  have hml := may_le hm
  have M0 : Hid (Mi Pd w G g F S t o o.le (S (!o.bu)) [] [] zeroPx F W3) := Lib.hid ⟨by rw [Sd.up_same]; exact h.below K b3, Fr.below b3, fun _ _ h => .inl h, xo, xr, xp, Px.Is.zero _ _, fun b k hk => ⟨by have := h.lt K (.inr ⟨b, hk⟩); omega, by have := h.lt K (.inr ⟨b, hk⟩); omega, by have := h.lt K (.inr ⟨b, hk⟩); omega, fun e => by rcases e with e | e <;> cases e⟩, h.gl⟩
  have R0 : Hid (Mr o (S (!o.bu)) o.le (S (!o.bu)) [] [] 0 ((S (!o.bu)).length + 1)) := Lib.hid ⟨by simp, by omega, by omega, Int.le_refl _, by have := (h.inv K (!o.bu)).len; simp; omega, by rw [show flagL o.le = 1 from if_pos (by omega)]⟩
  have HW := Lib.hid hW3
  have OK := Lib.hid ok
  have HML := Lib.hid hml
  obtain ⟨mm, hmm⟩ : ∃ mm, metB S o = mm := ⟨_, rfl⟩
  rw [hmm]
  have hmm : meetO o (S (!o.bu)) o.le = mm := hmm
  have HMM := Lib.hid hmm
  clear h ok hm hW3 b3 xo xr xp hml K hmm
  go_enter Try.func42, Try.ntmps42
  go_wp2_with fail
  go_step3
  go_wp2_with fail
  rw [HW.out]
  refine SDC.out.mono ?_; rintro e w0 ⟨rfl, rfl⟩
  clear k2 SDC hmm
  go_wp2_with fail
  go_step3
  go_wp2_with fail
  go_loopg [8] ((S (!o.bu)).length + 1) (fun k _ wr => ∃ (left : Int) (os : List Or) (td : List Td) (gn : List Int) (p : Px) (F' : Bool → Nat → Prop), Mr o (S (!o.bu)) left os td gn p.fi k ∧ p.lf = 0 ∧ Mi Pd w G g F S t o left os td gn p F' wr)
  case atStart => exact ⟨o.le, _, [], [], zeroPx, F, R0.out, rfl, M0.out⟩
  case round =>
    clear M0 R0
    obtain ⟨left, os, td, gn, p, F1, hr, hlf, hM⟩ := hrel
    have MR := Lib.hid hr
    have LF := Lib.hid hlf
    have M := Lib.hid hM
    have k4 : wr.cell? ⟨w.heap.size, 4, none⟩ = some (.int .i64 left) := gbx_cell hM.xo 4
    clear hr hlf hM
    by_cases h0 : 0 < left
    case neg =>
      have d0 : decide (0 < left) = false := decide_eq_false h0
      have E := Lib.hid (HMM.out.symm.trans (MR.out.stop (meet_end (by omega))))
      have RGP := Lib.hid (gbx_rng M.out.xp)
      go_wp2_with (first | ((with_reducible refine wl_load_px (w.heap.size + 1 + 1) 0 RGP.out ?_ ?_ ?_); rfl; rfl) | (refine wl_store_px p (w.heap.size + 1) M.out.xr rfl rfl ?_))
      try rw [Exit.noGoto_ret]
      refine bodyPost_ret (ret_px rfl _ _ (w.heap.size + 1) rfl (gbx_set M.out.xr)) rfl ⟨p, rfl, by rw [E.out], LF.out, ?_⟩
      rw [E.out]
      exact M.out.fin KH.out _
    case pos =>
      have d0 : decide (0 < left) = true := decide_eq_true h0
      have INV : Hid (InvO (!o.bu) os) := Lib.hid (KH.out.inv M.out.pd)
      have BST := Lib.hid (KH.out.best M.out.pd)
      cases os with
      | nil =>
        go_wp2_with fail
        refine BST.out.mono ?_; rintro e U ⟨rfl, q⟩
        obtain ⟨V, hV, bV, yV, zV, sV⟩ := put_or zeroOr q
        have HV := Lib.hid hV
        have ZV := Lib.hid zV
        have MV := Lib.hid (M.out.below KH.out bV)
        clear q hV bV yV zV sV k4
        have E := Lib.hid (HMM.out.symm.trans (MR.out.stop meet_nil))
        have RGP := Lib.hid (gbx_rng MV.out.xp)
        go_wp2_with (first | (refine gwl_store TO zeroOr U.heap.size ZV.out rfl rfl ?_; rw [HV.out]) | ((with_reducible refine wl_load_px (w.heap.size + 1 + 1) 0 RGP.out ?_ ?_ ?_); rfl; rfl) | (refine wl_store_px p (w.heap.size + 1) MV.out.xr rfl rfl ?_))
        try rw [Exit.noGoto_ret]
        refine bodyPost_ret (ret_px rfl _ _ (w.heap.size + 1) rfl (gbx_set MV.out.xr)) rfl ⟨p, rfl, by rw [E.out], LF.out, ?_⟩
        rw [E.out]
        exact MV.out.fin KH.out _
      | cons x r =>
        go_wp2_with fail
        refine BST.out.mono ?_; rintro e U ⟨rfl, q⟩
        obtain ⟨V, hV, bV, yV, zV, sV⟩ := put_or x q
        have HV := Lib.hid hV
        have ZV := Lib.hid zV
        have MV := Lib.hid (M.out.below KH.out bV)
        have YV := Lib.hid yV
        have UW : Hid (wr.heap.size ≤ U.heap.size) := Lib.hid q.size
        have RGO := Lib.hid (gbx_rng MV.out.xo)
        have RGX := Lib.hid (gbx_rng yV)
        have hxm := INV.out.may x (List.mem_cons_self ..)
        have hxl := may_le hxm.1
        have XOK := Lib.hid (INV.out.ok x (List.mem_cons_self ..))
        clear q hV bV yV zV sV k4 BST hxm
        go_wp2_with (first | (refine gwl_store TO x U.heap.size ZV.out rfl rfl ?_; rw [HV.out]) | ((with_reducible refine gwl_load (d := some 27) TO w.heap.size 0 RGO.out ?_ ?_ ?_); rfl; rfl) | ((with_reducible refine gwl_load (d := some 28) TO U.heap.size 0 RGX.out ?_ ?_ ?_); rfl; rfl))
        refine (pmeets_any (o.wi left) x V).mono ?_; rintro e V2 ⟨rfl, q2⟩
        rw [met_wi]
        have M2 := Lib.hid (MV.out.below KH.out q2)
        have Y2 := Lib.hid (gbx_below YV.out q2)
        have UV : Hid (U.heap.size < V2.heap.size) := Lib.hid (Array.getElem?_eq_some_iff.1 Y2.out).1
        clear q2 MV YV RGO RGX HV ZV
        cases hmt : metO o x
        · have HMT := Lib.hid hmt
          clear hmt
          have E := Lib.hid (HMM.out.symm.trans (MR.out.stop (meet_far HMT.out)))
          have RGP := Lib.hid (gbx_rng M2.out.xp)
          go_wp2_with (first | ((with_reducible refine wl_load_px (w.heap.size + 1 + 1) 0 RGP.out ?_ ?_ ?_); rfl; rfl) | (refine wl_store_px p (w.heap.size + 1) M2.out.xr rfl rfl ?_))
          try rw [Exit.noGoto_ret]
          refine bodyPost_ret (ret_px rfl _ _ (w.heap.size + 1) rfl (gbx_set M2.out.xr)) rfl ⟨p, rfl, by rw [E.out], LF.out, ?_⟩
          rw [E.out]
          exact M2.out.fin KH.out _
        · have HMT := Lib.hid hmt
          clear hmt
          have kx0 : V2.cell? ⟨U.heap.size, 0, none⟩ = some (.int .u64 x.nu) := gbx_cell Y2.out 0
          have kx1 : V2.cell? ⟨U.heap.size, 1, none⟩ = some (.int .u32 x.ac) := gbx_cell Y2.out 1
          have kx4 : V2.cell? ⟨U.heap.size, 4, none⟩ = some (.int .i64 x.le) := gbx_cell Y2.out 4
          have ko1 : V2.cell? ⟨w.heap.size, 1, none⟩ = some (.int .u32 o.ac) := gbx_cell M2.out.xo 1
          have ko4 : V2.cell? ⟨w.heap.size, 4, none⟩ = some (.int .i64 left) := gbx_cell M2.out.xo 4
          by_cases ha : x.ac = o.ac
          · have ea : (x.ac == o.ac) = true := beq_iff_eq.2 ha
            have HA := Lib.hid ha
            clear ha
            go_wp2_with fail
            refine (KH.out.drop M2.out.pd XOK.out.nu).mono ?_; rintro e W5 ⟨rfl, q5⟩
            have y5 : EO.Bx 31 W5 U.heap.size x := by
              obtain ⟨_, _, f, _⟩ := q5
              exact (f.at' _ UV.out (fun c => by have := KH.out.lt M.out.pd _ c; have := UW.out; omega)).trans Y2.out
            obtain ⟨F2, m5⟩ := M2.out.side KH.out q5
            rw [drop_head INV.out] at m5
            have k0 : W5.cell? ⟨U.heap.size, 0, none⟩ = some (.int .u64 x.nu) := gbx_cell y5 0
            have p1 : W5.cell? ⟨w.heap.size + 1 + 1, 1, none⟩ = some (.slice p.na p.nn p.nc) := gbx_cell m5.xp 1
            have QN := Lib.hid (below_new W5 (.cells #[.int .u64 x.nu] 28))
            have OWN : Hid (ENu.Own 28 (W5.alloc (.cells #[.int .u64 x.nu] 28)) w.heap.size (.slice p.na p.nn p.nc) gn) := Lib.hid (gown_below m5.pi.no QN.out)
            have RDN : Hid (ENu.Rd (W5.alloc (.cells #[.int .u64 x.nu] 28)) (some ⟨W5.heap.size, 0, none⟩) 1 [x.nu]) := Lib.hid (gbx_rd (E := ENu) (te := 28) (gbx_new (E := ENu) W5 x.nu))
            have M5 := Lib.hid m5
            have SZ := Lib.hid m5.gl
            have LN : Hid (gn.length ≤ 101) := Lib.hid (by have := MR.out.ln; omega)
            clear q5 y5 m5 kx0 kx1 kx4 ko1 ko4
            go_wp2_with (at_builtin; refine nu_app rfl (.tmp 43) (.tmp 46) rfl w.heap.size _ gn rfl OWN.out _ 1 1 [x.nu] rfl RDN.out (by have := LN.out; omega) (by have := SZ.out; simp; omega) ?_; intro v' w' o1 o2 o3; obtain ⟨A6, n6, c6, rfl⟩ := gown_any o1; have PUSH := Lib.hid (M5.out.gone KH.out QN.out o1 o2 o3); have xp' := M5.out.row_p QN.out o2 (fun k e => .inr e); have cv' : w'.cell? ⟨w.heap.size + 1 + 1, 1, none⟩ = some (.slice p.na p.nn p.nc) := gbx_cell xp' 1; have fv' : w'.frozen? ⟨w.heap.size + 1 + 1, 1, none⟩ = false := gbx_fz xp' 1; clear o1 o2 o3 xp')
            obtain ⟨R1, R2⟩ := MR.out.own h0 HMT.out HA.out
            go_roundg (gk - 1)
            case measure => exact R2
            case rel => exact ⟨left, r, td, gn ++ [x.nu], { p with na := A6, nn := n6, nc := c6 }, F2, R1, LF.out, PUSH.out⟩
          · have ea : (x.ac == o.ac) = false := beq_eq_false_iff_ne.2 ha
            have HA := Lib.hid ha
            clear ha
            obtain ⟨n, hn⟩ : ∃ n, minO x.le left = n := ⟨_, rfl⟩
            have hn1 := minO_le x.le left
            have hn2 := minO_pos (a := x.le) (b := left) (by omega) h0
            rw [hn] at hn1 hn2
            have HN := Lib.hid hn
            have hmin : min left x.le = n := by rw [← hn]; exact min_eq left x.le
            clear hn
            go_wp2_with fail
            refine (KH.out.fill M2.out.pd ⟨by omega, by omega⟩).mono ?_; rintro e W5 ⟨rfl, q5⟩
            have y5 : EO.Bx 31 W5 U.heap.size x := by
              obtain ⟨_, _, f, _⟩ := q5
              exact (f.at' _ UV.out (fun c => by have := KH.out.lt M.out.pd _ c; have := UW.out; omega)).trans Y2.out
            obtain ⟨F2, m5⟩ := M2.out.side KH.out q5
            have hu1 : U.heap.size ≠ w.heap.size ∧ U.heap.size ≠ w.heap.size + 1 + 1 := by have := M.out.gl; have := UW.out; omega
            have hsum := MR.out.sm
            have hfi := MR.out.fi
            have hml := HML.out
            have k4 : W5.cell? ⟨w.heap.size, 4, none⟩ = some (.int .i64 left) := gbx_cell m5.xo 4
            have f4 : W5.frozen? ⟨w.heap.size, 4, none⟩ = false := gbx_fz m5.xo 4
            have m6 := m5.order KH.out (left - n)
            have y6 : EO.Bx 31 (W5.setCell ⟨w.heap.size, 4, none⟩ (.int .i64 (left - n))) U.heap.size x := (heap_setCell_other W5 ⟨w.heap.size, 4, none⟩ _ _ hu1.1).trans y5
            have p2 : (W5.setCell ⟨w.heap.size, 4, none⟩ (.int .i64 (left - n))).cell? ⟨w.heap.size + 1 + 1, 2, none⟩ = some (.int .i64 p.fi) := gbx_cell m6.xp 2
            have f2 : (W5.setCell ⟨w.heap.size, 4, none⟩ (.int .i64 (left - n))).frozen? ⟨w.heap.size + 1 + 1, 2, none⟩ = false := gbx_fz m6.xp 2
            have m7 := m6.filled KH.out (p.fi + n)
            have y7 : EO.Bx 31 ((W5.setCell ⟨w.heap.size, 4, none⟩ (.int .i64 (left - n))).setCell ⟨w.heap.size + 1 + 1, 2, none⟩ (.int .i64 (p.fi + n))) U.heap.size x := (heap_setCell_other _ ⟨w.heap.size + 1 + 1, 2, none⟩ _ _ hu1.2).trans y6
            obtain ⟨W7, hW7⟩ : ∃ W7, ((W5.setCell ⟨w.heap.size, 4, none⟩ (.int .i64 (left - n))).setCell ⟨w.heap.size + 1 + 1, 2, none⟩ (.int .i64 (p.fi + n))) = W7 := ⟨_, rfl⟩
            have p0 : ((W5.setCell ⟨w.heap.size, 4, none⟩ (.int .i64 (left - n))).setCell ⟨w.heap.size + 1 + 1, 2, none⟩ (.int .i64 (p.fi + n))).cell? ⟨w.heap.size + 1 + 1, 0, none⟩ = some (.slice p.ta p.tn p.tc) := gbx_cell m7.xp 0
            have x0 : ((W5.setCell ⟨w.heap.size, 4, none⟩ (.int .i64 (left - n))).setCell ⟨w.heap.size + 1 + 1, 2, none⟩ (.int .i64 (p.fi + n))).cell? ⟨U.heap.size, 0, none⟩ = some (.int .u64 x.nu) := gbx_cell y7 0
            have x1 : ((W5.setCell ⟨w.heap.size, 4, none⟩ (.int .i64 (left - n))).setCell ⟨w.heap.size + 1 + 1, 2, none⟩ (.int .i64 (p.fi + n))).cell? ⟨U.heap.size, 1, none⟩ = some (.int .u32 x.ac) := gbx_cell y7 1
            have x3 : ((W5.setCell ⟨w.heap.size, 4, none⟩ (.int .i64 (left - n))).setCell ⟨w.heap.size + 1 + 1, 2, none⟩ (.int .i64 (p.fi + n))).cell? ⟨U.heap.size, 3, none⟩ = some (.int .i64 x.pr) := gbx_cell y7 3
            rw [hW7] at m7 y7
            have HW7 := Lib.hid hW7
            have QN := Lib.hid (below_new W7 (.cells (ET.cells ⟨x.pr, n, x.nu, x.ac⟩).toArray 63))
            have OWN : Hid (ET.Own 63 (W7.alloc (.cells (ET.cells ⟨x.pr, n, x.nu, x.ac⟩).toArray 63)) w.heap.size (.slice p.ta p.tn p.tc) td) := Lib.hid (gown_below m7.pi.to QN.out)
            have RDN := Lib.hid (gbx_rd (gbx_new (E := ET) (te := 63) W7 ⟨x.pr, n, x.nu, x.ac⟩))
            have M7 := Lib.hid m7
            have SZ := Lib.hid m7.gl
            have LN : Hid (td.length ≤ 101) := Lib.hid (by have := MR.out.ln; omega)
            have b1 : -9223372036854775808 ≤ left - n := by omega
            have b2 : left - n ≤ 9223372036854775807 := by omega
            have b3 : -9223372036854775808 ≤ p.fi + n := by omega
            have b4 : p.fi + n ≤ 9223372036854775807 := by omega
            clear q5 y5 y6 y7 m5 m6 m7 kx0 kx1 kx4 ko1 ko4 hW7 hu1
            go_wp2_with (first
              | (refine gwl_bs TT (s := ⟨x.pr, n, x.nu, x.ac⟩) rfl (fill_td _) ?_ (by decide); rw [HW7.out])
              | (at_builtin; refine gpl_app TT rfl (.tmp 68) (.tmp 77) rfl w.heap.size (.slice p.ta p.tn p.tc) td rfl OWN.out _ 1 1 [⟨x.pr, n, x.nu, x.ac⟩] rfl RDN.out (fun e => by cases e) (by have := LN.out; omega) (by have := SZ.out; simp; omega) ?_; intro v' w' o1 o2 o3; obtain ⟨A6, n6, c6, rfl⟩ := gown_any o1; have PUSH := Lib.hid (M7.out.traded KH.out QN.out o1 o2 o3); have xp' := M7.out.row_p QN.out o2 (fun k e => .inl e); have cv' : w'.cell? ⟨w.heap.size + 1 + 1, 0, none⟩ = some (.slice p.ta p.tn p.tc) := gbx_cell xp' 0; have fv' : w'.frozen? ⟨w.heap.size + 1 + 1, 0, none⟩ = false := gbx_fz xp' 0; clear o1 o2 o3 xp'))
            obtain ⟨k', R1, R2⟩ := MR.out.trade h0 HMT.out HA.out (by omega)
            rw [HN.out] at R2
            go_roundg k'
            case measure => exact R1
            case rel => exact ⟨left - n, fillO (x :: r) n, td ++ [⟨x.pr, n, x.nu, x.ac⟩], gn, { p with ta := A6, tn := n6, tc := c6, fi := p.fi + n }, F2, R2, LF.out, PUSH.out⟩
end
end Go.Proofs.Ytdcjgcjnfcahkaa
