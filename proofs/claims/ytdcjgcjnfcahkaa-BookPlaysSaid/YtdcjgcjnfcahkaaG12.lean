/- The program's book: Place. -/
import Derived.Test.YtdcjgcjnfcahkaaG11
namespace Go.Proofs.Ytdcjgcjnfcahkaa
open Go.RowKit Go.Shelf
set_option linter.unusedVariables false
set_option linter.unusedSimpArgs false

/-- Within Place, once it has met: the order's box X with what it has left, the result's block R, the block Y of what is told. -/
structure Pi (Pd : PdT) (w : World) (X R Y : Nat) (G : Nat) (g : Bool → Nat) (F0 : Bool → Nat → Prop) (o : Or) (left : Int) (td : List Td) (gn : List Int) (p : Px) (T : Sd) (t : Nat) (F : Bool → Nat → Prop) (W : World) : Prop where
  bp : Bp Pd W G g F T t
  fr : Fr (fun k => ∃ b, F0 b k) w W
  fn : ∀ b k, F b k → F0 b k ∨ w.heap.size ≤ k
  xo : EO.Bx 31 W X (o.wi left)
  xr : EPx.Bx 49 W R zeroPx
  xp : EPx.Bx 49 W Y p
  pi : p.Is W w.heap.size td gn
  ap : ∀ b k, F b k → k ≠ X ∧ k ≠ R ∧ k ≠ Y ∧ ¬ p.own k
  nx : w.heap.size ≤ X ∧ w.heap.size ≤ R ∧ w.heap.size ≤ Y ∧ R ≠ Y ∧ X ≠ R ∧ X ≠ Y
  gw : G < w.heap.size
section
variable {Pd : PdT} {zs : Array Value} {w W W' : World} {X R Y G : Nat} {g : Bool → Nat} {F0 F : Bool → Nat → Prop} {T : Sd} {t t' : Nat} {o : Or} {left n : Int} {os' : List Or} {td : List Td} {gn : List Int} {p : Px} {b : Bool}
theorem Pi.xl (h : Pi Pd w X R Y G g F0 o left td gn p T t F W) : X < W.heap.size ∧ R < W.heap.size ∧ Y < W.heap.size := ⟨(Array.getElem?_eq_some_iff.1 h.xo).1, (Array.getElem?_eq_some_iff.1 h.xr).1, (Array.getElem?_eq_some_iff.1 h.xp).1⟩
theorem Pi.nb (h : Pi Pd w X R Y G g F0 o left td gn p T t F W) : ¬ p.own X ∧ ¬ p.own R ∧ ¬ p.own Y := ⟨h.pi.ne h.xo (by decide) (by decide), h.pi.ne h.xr (by decide) (by decide), h.pi.ne h.xp (by decide) (by decide)⟩
theorem Pi.below (K : SideK Pd zs) (h : Pi Pd w X R Y G g F0 o left td gn p T t F W) (q : Below W.heap.size W W') : Pi Pd w X R Y G g F0 o left td gn p T t F W' :=
  ⟨h.bp.below K q, h.fr.same (Fr.below q), h.fn, gbx_below h.xo q, gbx_below h.xr q, gbx_below h.xp q, h.pi.below q, h.ap, h.nx, h.gw⟩
theorem Pi.drew (K : SideK Pd zs) (h : Pi Pd w X R Y G g F0 o left td gn p T t F W) : Pi Pd w X R Y G g F0 o left td gn p T t F W.drew := h.below K (Below.refl _ _).drew
/-- One of its blocks is written. -/
theorem Pi.keep {Q : Nat → Prop} (K : SideK Pd zs) (h : Pi Pd w X R Y G g F0 o left td gn p T t F W) (f : Fr Q W W') (hQ : ∀ k, Q k → k = X ∨ k = R ∨ k = Y) : Bp Pd W' G g F T t ∧ Fr (fun k => ∃ b, F0 b k) w W' ∧ p.Is W' w.heap.size td gn := by
  refine ⟨h.bp.keep K f (fun k hk c => ?_), h.fr.trans f (fun _ h => h) (fun k hk c => ?_), h.pi.fr f (fun k hk c => ?_)⟩
  · rcases hk with rfl | ⟨b, hk⟩
    · have := h.gw; have := h.nx
      rcases hQ _ c with c | c | c <;> omega
    · obtain ⟨a1, a2, a3, _⟩ := h.ap b k hk
      rcases hQ _ c with c | c | c
      · exact a1 c
      · exact a2 c
      · exact a3 c
  · exfalso
    have := h.nx
    rcases hQ _ c with c | c | c <;> omega
  · obtain ⟨a1, a2, a3⟩ := h.nb
    rcases hQ _ c with rfl | rfl | rfl
    · exact a1 hk
    · exact a2 hk
    · exact a3 hk
theorem Pi.order (K : SideK Pd zs) (h : Pi Pd w X R Y G g F0 o left td gn p T t F W) (n : Int) : Pi Pd w X R Y G g F0 o n td gn p T t F (W.setCell ⟨X, 4, none⟩ (.int .i64 n)) := by
  have f : Fr (fun k => k = X) W (W.setCell ⟨X, 4, none⟩ (.int .i64 n)) := Fr.set (S := fun k => k = X) (p := ⟨X, 4, none⟩) rfl _
  obtain ⟨k1, k2, k3⟩ := h.keep K f (fun k e => .inl e)
  obtain ⟨_, l1, l2⟩ := h.xl
  have hn := h.nx
  exact ⟨k1, k2, h.fn, gbx_put h.xo rfl, (f.at' _ l1 (by omega)).trans h.xr, (f.at' _ l2 (by omega)).trans h.xp, k3, h.ap, h.nx, h.gw⟩
theorem Pi.rest (K : SideK Pd zs) (h : Pi Pd w X R Y G g F0 o left td gn p T t F W) (n : Int) : Pi Pd w X R Y G g F0 o left td gn { p with lf := n } T t F (W.setCell ⟨Y, 3, none⟩ (.int .i64 n)) := by
  have f : Fr (fun k => k = Y) W (W.setCell ⟨Y, 3, none⟩ (.int .i64 n)) := Fr.set (S := fun k => k = Y) (p := ⟨Y, 3, none⟩) rfl _
  obtain ⟨k1, k2, k3⟩ := h.keep K f (fun k e => .inr (.inr e))
  obtain ⟨l0, l1, l2⟩ := h.xl
  have hn := h.nx
  exact ⟨k1, k2, h.fn, (f.at' _ l0 (by omega)).trans h.xo, (f.at' _ l1 (by omega)).trans h.xr, gbx_put h.xp rfl, ⟨k3.to, k3.no⟩, h.ap, h.nx, h.gw⟩
/-- A call on a side. -/
theorem Pi.side (K : SideK Pd zs) (h : Pi Pd w X R Y G g F0 o left td gn p T t F W) (ht : t ≤ t') (q : AftO Pd W (F b) (g b) b os' t' W') : ∃ F', Pi Pd w X R Y G g F0 o left td gn p (T.up b os') t' F' W' := by
  obtain ⟨F', k1, k2, k3⟩ := h.bp.turn K ht q
  obtain ⟨l0, l1, l2⟩ := h.xl
  have no : ∀ k, (∃ b, F b k) → k ≠ X ∧ k ≠ R ∧ k ≠ Y ∧ ¬ p.own k := fun k ⟨b, hk⟩ => h.ap b k hk
  refine ⟨F', k1, h.fr.trans k2 (fun _ h => h) (fun k hk ⟨b, c⟩ => ?_), fun b k hk => ?_, (k2.at' _ l0 (fun c => (no _ c).1 rfl)).trans h.xo, (k2.at' _ l1 (fun c => (no _ c).2.1 rfl)).trans h.xr, (k2.at' _ l2 (fun c => (no _ c).2.2.1 rfl)).trans h.xp, h.pi.fr k2 (fun k hk c => (no _ c).2.2.2 hk), fun b k hk => ?_, h.nx, h.gw⟩
  · rcases h.fn b k c with c | c
    · exact ⟨b, c⟩
    · omega
  · rcases k3 b k hk with c | c
    · exact h.fn b k c
    · exact .inr (Nat.le_trans h.fr.size c)
  · rcases k3 b k hk with c | c
    · exact h.ap b k c
    · exact ⟨by omega, by omega, by omega, fun e => by have := (h.pi.lt e).2; omega⟩
theorem Pi.fin (K : SideK Pd zs) (h : Pi Pd w X R Y G g F0 o left td gn p T t F W) (cs : Array Value) : BpP Pd w G g F0 T t p td gn (W.setRow R cs) := by
  have f : Fr (fun k => k = R) W (W.setRow R cs) := fr_row (S := fun k => k = R) rfl cs
  obtain ⟨k1, k2, k3⟩ := h.keep K f (fun k e => .inr (.inl e))
  exact ⟨F, k1, k2, h.fn, k3, fun b k hk => (h.ap b k hk).2.2.2⟩
end
section
variable {S : Sd} {o : Or} {k : Int}
theorem pa_may (h : placeA S o k = 0) : mayO o = true := by
  cases hm : mayO o
  · rw [pa_arg (.inl hm)] at h; cases h
  · rfl
theorem pa_no (h : placeA S o k ≠ 0) : placeS S o k = S ∧ placeP S o k = zeroPl := ⟨if_neg h, if_neg h⟩
theorem pa_yes (h : placeA S o k = 0) : placeS S o k = comeS S o (restK k) ∧ placeP S o k = comeP S o (restK k) := ⟨if_pos h, if_pos h⟩
theorem come_no {r : Bool} (h : ¬ (0 < (metB S o).lf ∧ r = true)) : comeS S o r = S.up (!o.bu) (metB S o).os ∧ comeP S o r = ⟨(metB S o).td, (metB S o).gn, (metB S o).fi, 0⟩ := by
  unfold comeS comeP
  dsimp only
  rw [if_neg h, if_neg h]
  exact ⟨rfl, rfl⟩
theorem come_yes {r : Bool} (h : 0 < (metB S o).lf ∧ r = true) : comeS S o r = (S.up (!o.bu) (metB S o).os).up o.bu (addO o.bu ((S.up (!o.bu) (metB S o).os) o.bu) (o.wi (metB S o).lf)) ∧ comeP S o r = ⟨(metB S o).td, (metB S o).gn, (metB S o).fi, (metB S o).lf⟩ := by
  unfold comeS comeP
  dsimp only
  rw [if_pos h, if_pos h]
  exact ⟨rfl, rfl⟩
end
theorem meet_fi {buy : Bool} {os : List Or} (h : InvO buy os) (o : Or) {left : Int} (hl : 0 ≤ left) : 0 ≤ (meetO o os left).fi ∧ 0 ≤ (meetO o os left).lf := by
  refine ⟨?_, meet_ge o os left hl⟩
  have e := meet_traded o os left
  rw [← e]
  have pos := meet_trades o os left h
  generalize (meetO o os left).td = l at pos
  clear e
  induction l with
  | nil => exact Int.le_refl _
  | cons t l ih =>
    have := ih fun u hu => pos u (List.mem_cons_of_mem _ hu)
    have := (pos t (List.mem_cons_self ..)).1
    show 0 ≤ t.qt + sumT l
    omega
theorem two_pbx (w : World) (o : Or) : ∃ W2, (w.alloc (.cells (EO.cells o).toArray 31)).alloc (.cells (EPx.cells zeroPx).toArray 49) = W2 ∧ Below w.heap.size w W2 ∧ EO.Bx 31 W2 w.heap.size o ∧ EPx.Bx 49 W2 (w.heap.size + 1) zeroPx ∧ W2.heap.size = w.heap.size + 1 + 1 := by
  generalize h1 : w.alloc (.cells (EO.cells o).toArray 31) = W1
  have e1 : EO.Bx 31 W1 w.heap.size o := h1 ▸ heap_alloc_new w _
  have s1 : W1.heap.size = w.heap.size + 1 := by rw [← h1]; simp
  have q1 : Below w.heap.size w W1 := h1 ▸ below_new w _
  generalize h2 : W1.alloc (.cells (EPx.cells zeroPx).toArray 49) = W2
  have e2 : EPx.Bx 49 W2 W1.heap.size zeroPx := h2 ▸ heap_alloc_new W1 _
  have s2 : W2.heap.size = W1.heap.size + 1 := by rw [← h2]; simp
  have q2 : Below W1.heap.size W1 W2 := h2 ▸ below_new W1 _
  rw [s1] at e2
  exact ⟨W2, rfl, q1.trans (q2.mono (by omega)), gbx_below e1 q2, e2, by omega⟩
section
variable {Pd : PdT} {zs : Array Value} {G : Nat} {g : Bool → Nat} {F : Bool → Nat → Prop} {S : Sd} {t : Nat}
theorem bpp_none (K : SideK Pd zs) {w W : World} (h : Bp Pd w G g F S t) (q : Below w.heap.size w W) (t' : Nat) (ht : t ≤ t') : BpP Pd w G g F S t' zeroPx [] [] W :=
  ⟨F, (h.below K q).more K ht, Fr.below q, fun _ _ h => .inl h, Px.Is.zero _ _, fun b k _ e => by rcases e with e | e <;> cases e⟩
set_option maxRecDepth 100000 in
set_option maxHeartbeats 8000000 in
theorem pplace_any (K : SideK Pd zs) {o : Or} {k : Int} (w : World) (h : Bp Pd w G g F S t) (ok : o.ok) (ht : t < 1000000000) :
    Calls Try.prog 19 #[.pointer (some ⟨G, 0, none⟩), .agg (EO.cells o).toArray, .int .u8 k] w fun e w' => ∃ p : Px, e = .returned (.tuple #[.agg (EPx.cells p).toArray, .int .i64 (placeA S o k)]) ∧ p.fi = (placeP S o k).fi ∧ p.lf = (placeP S o k).lf ∧ BpP Pd w G g F (placeS S o k) (t + 1) p (placeP S o k).td (placeP S o k).gn w' := by
  have hz := zero_or
  have hp := zero_px
  have KH := Lib.hid K
  obtain ⟨W2, hW2, b2, xo, xr, s2⟩ := two_pbx w o
  have h2 := h.below K b2
  have HW := Lib.hid hW2
  have MS := Lib.hid (pmiss_no h2.c0)
  have RF := Lib.hid (prefused_any K (k := k) W2 h2 ok)
  have B2 := Lib.hid b2
  have XR := Lib.hid xr
  have XO := Lib.hid xo
  have RG0 := Lib.hid (gbx_rng xo)
  have HH := Lib.hid h
  have H2 := Lib.hid h2
  have OK := Lib.hid ok
  have S2 := Lib.hid s2
  have GL := Lib.hid h.gl
  have LTF := Lib.hid (fun (b : Bool) (j : Nat) (hj : F b j) => h.lt K (.inr ⟨b, hj⟩))
  clear K h h2 ok hW2 b2 xo xr s2
  by_cases ha : placeA S o k = 0
  case neg =>
    obtain ⟨e1, e2⟩ := pa_no ha
    rw [e1, e2]
    have ha' : (placeA S o k == 0) = false := beq_eq_false_iff_ne.2 ha
    generalize placeA S o k = pa at *
    clear e1 e2 ha
    go_enter Try.func19, Try.ntmps19
    go_wp2_with fail
    rw [HW.out]
    refine MS.out.mono ?_; rintro e w0 ⟨rfl, rfl⟩
    go_wp2_with ((with_reducible refine gwl_load TO w.heap.size 0 RG0.out ?_ ?_ ?_); rfl; rfl)
    refine RF.out.mono ?_; rintro e w4 ⟨rfl, q4⟩
    have X4 := Lib.hid (gbx_below XR.out q4)
    have B4 := Lib.hid (B2.out.trans (q4.mono B2.out.size))
    clear q4
    go_wp2_with (first | (refine wl_build0_px ?_) | (refine wl_store_px zeroPx (w.heap.size + 1) X4.out rfl rfl ?_))
    exact bodyPost_ret (ret_px2 rfl _ _ (w.heap.size + 1) rfl rfl (gbx_set X4.out)) rfl ⟨zeroPx, rfl, rfl, rfl, bpp_none KH.out HH.out (below_row0 B4.out (by omega)) _ (Nat.le_succ _)⟩
  case pos =>
    obtain ⟨e1, e2⟩ := pa_yes ha
    have hmay := pa_may ha
    have hml := may_le hmay
    rw [e1, e2, ha]
    rw [ha] at RF
    have PM := Lib.hid fun (W : World) (hb : Bp Pd W G g F S t) => pmeet_any KH.out W hb OK.out hmay
    have SM := meet_sum o (S (!o.bu)) o.le
    have FI := meet_fi (KH.out.inv (HH.out.pd (!o.bu))) o (by omega : (0 : Int) ≤ o.le)
    have CN := Lib.hid (come_no (S := S) (o := o) (r := restK k))
    have CY := Lib.hid (come_yes (S := S) (o := o) (r := restK k))
    obtain ⟨m, hm⟩ : ∃ m, metB S o = m := ⟨_, rfl⟩
    rw [show meetO o (S (!o.bu)) o.le = m from hm] at SM FI
    rw [hm] at PM CN CY
    have PR := Lib.hid (prests_any k)
    clear ha e1 e2 hm hmay
    go_enter Try.func19, Try.ntmps19
    go_wp2_with fail
    rw [HW.out]
    refine MS.out.mono ?_; rintro e w0 ⟨rfl, rfl⟩
    go_wp2_with ((with_reducible refine gwl_load TO w.heap.size 0 RG0.out ?_ ?_ ?_); rfl; rfl)
    refine RF.out.mono ?_; rintro e w4 ⟨rfl, q4⟩
    have RG4 := Lib.hid (gbx_rng (gbx_below XO.out q4))
    have Q4 := Lib.hid q4
    clear q4
    go_wp2_with ((with_reducible refine gwl_load TO w.heap.size 0 RG4.out ?_ ?_ ?_); rfl; rfl)
    refine (PM.out w4 (H2.out.below KH.out Q4.out)).mono ?_; rintro e w5 ⟨p, rfl, hpf, hpl, F5, b5, f5, n5, i5, a5⟩
    obtain ⟨V, hV, bV, yV, zV, sV⟩ := put_px p (Below.refl w5.heap.size w5)
    have HV := Lib.hid hV
    have ZV := Lib.hid zV
    have s4 := Q4.out.size
    have s5 := f5.size
    have ss2 := S2.out
    have gl := GL.out
    have n4 : ∀ k, w.heap.size ≤ k → k < w4.heap.size → ∀ b, ¬ F5 b k := fun k h1 h2 b c => by
      rcases n5 b k c with d | d
      · have := LTF.out b k d; omega
      · omega
    have B4 := B2.out.trans (Q4.out.mono B2.out.size)
    have PI : Hid (Pi Pd w w.heap.size (w.heap.size + 1) w5.heap.size G g F o o.le m.td m.gn p (S.up (!o.bu) m.os) t F5 V) := Lib.hid ⟨b5.below KH.out bV, ((Fr.below B4).same f5).same (Fr.below bV), fun b k c => (n5 b k c).imp id (fun d => by omega), gbx_below ((f5.at' _ (by omega) (fun ⟨b, c⟩ => by have := LTF.out b _ c; omega)).trans (gbx_below XO.out Q4.out)) bV, gbx_below ((f5.at' _ (by omega) (fun ⟨b, c⟩ => by have := LTF.out b _ c; omega)).trans (gbx_below XR.out Q4.out)) bV, yV, (i5.low (by omega)).below bV, fun b k c => ⟨fun e => n4 k (by omega) (by omega) b c, fun e => n4 k (by omega) (by omega) b c, fun e => by have := b5.lt KH.out (.inr ⟨b, c⟩); omega, a5 b k c⟩, by omega, gl⟩
    have k4 : V.cell? ⟨w.heap.size, 4, none⟩ = some (.int .i64 o.le) := gbx_cell PI.out.xo 4
    have f4 : V.frozen? ⟨w.heap.size, 4, none⟩ = false := gbx_fz PI.out.xo 4
    have k2 : V.cell? ⟨w5.heap.size, 2, none⟩ = some (.int .i64 p.fi) := gbx_cell yV 2
    clear bV yV zV sV b5 f5 n5 i5 a5 n4 B4 hV
    have bb1 : -9223372036854775808 ≤ o.le - p.fi := by omega
    have bb2 : o.le - p.fi ≤ 9223372036854775807 := by omega
    have hlf : o.le - p.fi = m.lf := by omega
    have HLF := Lib.hid hlf
    have HPL := Lib.hid hpl
    have HPF := Lib.hid hpf
    have HML := Lib.hid hml
    have FF := Lib.hid FI
    clear hlf hpl hpf SM FI hml
    go_wp2_with (refine wl_store_px p w5.heap.size ZV.out rfl rfl ?_; rw [HV.out])
    have P6 := Lib.hid (PI.out.order KH.out (o.le - p.fi))
    obtain ⟨W6, hW6⟩ : ∃ W6, V.setCell ⟨w.heap.size, 4, none⟩ (.int .i64 (o.le - p.fi)) = W6 := ⟨_, rfl⟩
    rw [hW6] at P6 ⊢
    clear hW6 PI k4 f4 k2 bb1 bb2
    rw [HLF.out] at P6
    have k6 : W6.cell? ⟨w.heap.size, 4, none⟩ = some (.int .i64 m.lf) := gbx_cell P6.out.xo 4
    cases hr : restK k
    · rw [hr] at PR
      have CC := Lib.hid (CN.out (by rw [hr]; simp))
      clear hr CN CY
      have RGP := Lib.hid (gbx_rng P6.out.xp)
      refine (PR.out W6).mono ?_; rintro e w7 ⟨rfl, rfl⟩
      go_wp2_with (first | ((with_reducible refine wl_load_px w5.heap.size 0 RGP.out ?_ ?_ ?_); rfl; rfl) | (refine wl_store_px p (w.heap.size + 1) P6.out.xr rfl rfl ?_))
      refine bodyPost_ret (ret_px2 rfl _ _ (w.heap.size + 1) rfl rfl (gbx_set P6.out.xr)) rfl ?_
      rw [CC.out.1, CC.out.2]
      refine ⟨p, rfl, HPF.out, HPL.out, ?_⟩
      obtain ⟨F', q1, q2, q3, q4, q5⟩ := P6.out.fin KH.out (EPx.cells p).toArray
      exact ⟨F', q1.more KH.out (Nat.le_succ _), q2, q3, q4, q5⟩
    · rw [hr] at PR
      by_cases h0 : 0 < m.lf
      case neg =>
        have d0 : decide (0 < m.lf) = false := decide_eq_false h0
        have CC := Lib.hid (CN.out (fun e => h0 e.1))
        clear hr CN CY
        have RGP := Lib.hid (gbx_rng P6.out.xp)
        refine (PR.out W6).mono ?_; rintro e w7 ⟨rfl, rfl⟩
        go_wp2_with (first | ((with_reducible refine wl_load_px w5.heap.size 0 RGP.out ?_ ?_ ?_); rfl; rfl) | (refine wl_store_px p (w.heap.size + 1) P6.out.xr rfl rfl ?_))
        refine bodyPost_ret (ret_px2 rfl _ _ (w.heap.size + 1) rfl rfl (gbx_set P6.out.xr)) rfl ?_
        rw [CC.out.1, CC.out.2]
        refine ⟨p, rfl, HPF.out, HPL.out, ?_⟩
        obtain ⟨F', q1, q2, q3, q4, q5⟩ := P6.out.fin KH.out (EPx.cells p).toArray
        exact ⟨F', q1.more KH.out (Nat.le_succ _), q2, q3, q4, q5⟩
      case pos =>
        have d0 : decide (0 < m.lf) = true := decide_eq_true h0
        have CC := Lib.hid (CY.out ⟨h0, hr⟩)
        clear hr CN CY
        refine (PR.out W6).mono ?_; rintro e w7 ⟨rfl, rfl⟩
        go_wp2_with fail
        obtain ⟨lf, hlf⟩ : ∃ lf, m.lf = lf := ⟨_, rfl⟩
        have OKL : Hid ((o.wi lf).ok) := Lib.hid (by have := HLF.out; have := HML.out; have := FF.out; have := HPF.out; exact wi_ok OK.out ⟨by omega, by omega⟩)
        obtain ⟨SS, hSS⟩ : ∃ SS : World → Prop, SS = fun U => ∃ T t F', Pi Pd w w.heap.size (w.heap.size + 1) w5.heap.size G g F o lf m.td m.gn p T t F' U := ⟨_, rfl⟩
        have HLL := Lib.hid hlf
        rw [hlf] at P6 CC k6 h0
        have SE := Lib.hid hSS
        have S0 : SS W6.drew := by rw [hSS]; exact ⟨_, _, _, P6.out.drew KH.out⟩
        have K2 : Hid (∀ U, SS U → U.cell? ⟨w.heap.size, 2, none⟩ = some (.bool o.bu)) := Lib.hid fun U hU => by
          rw [SE.out] at hU
          obtain ⟨T, t', F', q⟩ := hU
          exact gbx_cell q.xo 2
        have KR : Hid (∀ U, SS U → U.rangeAt w.heap.size 0 (EO.cells (o.wi lf))) := Lib.hid fun U hU => by
          rw [SE.out] at hU
          obtain ⟨T, t', F', q⟩ := hU
          exact gbx_rng q.xo
        clear hSS k6 d0
        refine wp_region_held_drew (S := SS) (by kernel_rfl) S0 (fun hH => ?_)
        refine wpAnyH_take (i := 0) (v := .pointer (some ⟨G, 0, none⟩)) rfl (by kernel_rfl) (by kernel_rfl) (by kernel_rfl) (fun _ _ _ h => h) (.inl ⟨by rfl, ?_⟩) (by assumption) ?_
        · intro W hW; go_simp
        try simp only [List.getElem_toArray, List.getElem_cons_zero, Act.put, List.setIfInBounds_toArray, List.set_cons_zero, List.set_cons_succ]
        refine wpAnyH_take (i := 1) (v := .pointer (some ⟨w.heap.size, 2, none⟩)) rfl (by kernel_rfl) (by kernel_rfl) (by kernel_rfl) (fun _ _ _ h => h) (.inl ⟨by rfl, ?_⟩) (by assumption) ?_
        · intro W hW; go_simp
        try simp only [List.getElem_toArray, List.getElem_cons_zero, List.getElem_cons_succ, Act.put, List.setIfInBounds_toArray, List.set_cons_zero, List.set_cons_succ]
        refine wpAnyH_take (i := 2) (v := .bool o.bu) rfl (by kernel_rfl) (by kernel_rfl) (by kernel_rfl) (fun _ _ _ h => h) (.inl ⟨by rfl, ?_⟩) (by assumption) ?_
        · intro W hW; have k := K2.out W hW; go_simp
        try simp only [List.getElem_toArray, List.getElem_cons_zero, List.getElem_cons_succ, Act.put, List.setIfInBounds_toArray, List.set_cons_zero, List.set_cons_succ]
        refine wpAnyH_take (i := 4) (v := .agg (EO.cells (o.wi lf)).toArray) rfl (by kernel_rfl) (by kernel_rfl) (by kernel_rfl) (fun _ _ _ h => h) (gyields_load TO (by rfl) (.tmp 4) rfl w.heap.size 0 rfl KR.out) (by assumption) ?_
        try simp only [List.getElem_toArray, List.getElem_cons_zero, List.getElem_cons_succ, Act.put, List.setIfInBounds_toArray, List.set_cons_zero, List.set_cons_succ]
        refine wpAnyH_ready (rs := [3]) (by decide +kernel) (by simp) (AllReadyH.cons rfl (fun KQ hK => ?_) AllReadyH.nil)
        go_simp
        refine (pside_any o.bu (P6.out.drew KH.out).bp).mono ?_; rintro e0 W1 ⟨rfl, rfl⟩
        have hH := hH
        refine hK.out _ _ hH (fun _ => ?_)
        clear hK 
        try simp only [List.setIfInBounds_toArray, List.set_cons_zero, List.set_cons_succ]
        refine wpAnyH_ready (rs := [5]) (by decide +kernel) (by simp) (AllReadyH.cons rfl (fun KQ hK => ?_) AllReadyH.nil)
        go_simp
        refine (KH.out.add ((P6.out.drew KH.out).bp.pd o.bu) OKL.out ht).mono ?_; rintro e0 W9 ⟨rfl, q9⟩
        have p9 := (P6.out.drew KH.out).side KH.out (Nat.le_succ _) q9
        refine hK.out _ _ (by rw [SE.out]; obtain ⟨F', p9⟩ := p9; exact ⟨_, _, _, p9⟩) (fun _ => ?_)
        clear hK q9
        try simp only [List.setIfInBounds_toArray, List.set_cons_zero, List.set_cons_succ]
        refine wpAnyH_done (by decide +kernel) ?_ _
        obtain ⟨F9, p9⟩ := p9
        have P9 := Lib.hid p9
        have k4 : W9.cell? ⟨w.heap.size, 4, none⟩ = some (.int .i64 lf) := gbx_cell p9.xo 4
        have k3 : W9.cell? ⟨w5.heap.size, 3, none⟩ = some (.int .i64 p.lf) := gbx_cell p9.xp 3
        have f3 : W9.frozen? ⟨w5.heap.size, 3, none⟩ = false := gbx_fz p9.xp 3
        have P10 := Lib.hid (p9.rest KH.out lf)
        have RGP := Lib.hid (gbx_rng P10.out.xp)
        clear p9 hH P6
        go_wp2_with (first | ((with_reducible refine wl_load_px w5.heap.size 0 RGP.out ?_ ?_ ?_); rfl; rfl) | (refine wl_store_px { p with lf := lf } (w.heap.size + 1) P10.out.xr rfl rfl ?_))
        refine bodyPost_ret (ret_px2 rfl _ _ (w.heap.size + 1) rfl rfl (gbx_set P10.out.xr)) rfl ?_
        rw [CC.out.1, CC.out.2]
        exact ⟨{ p with lf := lf }, rfl, HPF.out, rfl, P10.out.fin KH.out _⟩
end
end Go.Proofs.Ytdcjgcjnfcahkaa
