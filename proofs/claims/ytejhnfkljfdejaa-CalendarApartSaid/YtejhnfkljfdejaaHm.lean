/- The program's calendar: List. -/
import Derived.Test.YtejhnfkljfdejaaHl
namespace Go.Proofs.Ytejhnfkljfdejaa
open Go.RowKit
set_option linter.unusedVariables false

theorem yields_build_ct {ops : Array Oper} {S : World → Prop} {o : Oper} {a : Act} (hw : Region.wanted o (yielded ops a.tmps) = true) (x y z : Operand) (ho : o.op = .build 45 #[(0, x), (1, y), (2, z)]) (s : Sp) (t p : Int) (hl : s.sh.length = 16)
    (hx : a.eval x = .agg s.cells) (hy : a.eval y = .int .u8 t) (hz : a.eval z = .int .i64 p) : YieldsIf Try.prog ops S o (.agg (Ct.mk s t p).cells) a :=
  .inl ⟨hw, fun w _ => by
    have e : ((#[(0, x), (1, y), (2, z)] : Array (Nat × Operand)).map fun (i, x) => (i, a.eval x)).toList = [(0, .agg s.cells), (1, .int .u8 t), (2, .int .i64 p)] := by simp [hx, hy, hz]
    have hb := run_build w 45 ((#[(0, x), (1, y), (2, z)] : Array (Nat × Operand)).map fun (i, x) => (i, a.eval x)) (Ct.mk s t p).cells (by rw [e]; exact built_ct hl t p)
    unfold execOp
    simp only [ho, Sem.run_bind]
    rw [hb]
    rfl⟩
theorem wp_bs_ct {o : Oper} {a : Act} {w : World} {K : Act → World → Prop} {Q : Exit → Act → World → Prop} {x : Operand} (ho : o.op = .buildSlice 27 1 #[(0, x)]) (y : Ct) (hl : y.sp.sh.length = 16) (hx : a.eval x = .agg y.cells)
    (h : K (a.put o.dst (.slice (some ⟨w.heap.size, 0, none⟩) 1 1)) (w.alloc (.cells y.cells 45))) : o.wp Try.prog a w K Q := by
  obtain ⟨ie, h1, h2, h3, _⟩ := info_parts info_ctz
  refine wp_buildSlice 27 45 1 #[(0, x)] ho y.cells ie (.agg zeroCt.cells) Try.underlying27 h1 h2 (by rw [h3]; decide) (by rw [h3]; decide) ?_ h
  rw [h3, show ((#[(0, x)] : Array (Nat × Operand)).map fun (i, x) => (i, a.eval x)).toList = [(0, a.eval x)] from by simp, hx]
  exact fill_ct hl
theorem list_ok {cs : List Ct} (h : ∀ x, x ∈ cs → x.ok) {s : Sp} (hs : s.ok) (k : Nat) : ∀ x, x ∈ cs.take k ++ (⟨s, 1, s.fi⟩ :: cs.drop k) → x.ok := ins_ok h hs
theorem list_pos {cs : List Ct} (h : ∀ x, x ∈ cs → 1 ≤ x.sp.nu) {s : Sp} (hs : 1 ≤ s.nu) (k : Nat) : ∀ x, x ∈ cs.take k ++ (⟨s, 1, s.fi⟩ :: cs.drop k) → 1 ≤ x.sp.nu := by
  intro x hx
  rcases List.mem_append.1 hx with q | q
  · exact h x (List.mem_of_mem_take q)
  rcases List.mem_cons.1 q with rfl | q
  · exact hs
  · exact h x (List.mem_of_mem_drop q)
/-- What List leaves. -/
def RpN (w : World) (g : Nat) (v : Value) (d : Int) (cs : List Ct) (w' : World) : Prop := ∃ v', Rp w' g v' d cs ∧ Fr (RcS g v) w w' ∧ ∀ k, v'.ownBlock = some k → v.ownBlock = some k ∨ w.heap.size ≤ k
theorem rpn_same {w w' : World} {g : Nat} {v : Value} {d : Int} {cs : List Ct} (h : Rp w g v d cs) (q : Below w.heap.size w w') : RpN w g v d cs w' := ⟨v, h.below q, Fr.below q, fun _ h => .inl h⟩
/-- The end of List: the row is another one, and written into the calendar. -/
theorem rpn_put {w w1 w2 : World} {g : Nat} {v v' : Value} {d : Int} {cs cs' : List Ct} (h : Rp w1 g v d cs) (hw : Below w.heap.size w w1) (hg : g < w.heap.size) (o : w2.ownsRow 0 45 27 v' cs'.length (flat cs')) (f : Fr (fun k => v.ownBlock = some k) w1 w2) (ha : v'.ownBlock = v.ownBlock ∨ v'.ownBlock = some w1.heap.size)
    (le : cs'.length ≤ 16) (ok : ∀ x, x ∈ cs' → x.ok) (up : Up cs') (pos : ∀ x, x ∈ cs' → 1 ≤ x.sp.nu) : RpN w g v d cs' (w2.setCell ⟨g, 2, none⟩ v') := by
  have hgl := h.gl
  have hn : ¬ v.ownBlock = some g := fun e => h.apart g e rfl
  have hb : w2.heap[g]? = some (.cells #[.bool true, .int .u32 d, v] 51 (0, 0)) := (f.at' g hgl hn).trans h.blk
  have hne : ∀ k, v'.ownBlock = some k → k ≠ g := fun k hk e => by
    subst e
    rcases ha with c | c
    · exact hn (by rw [← c]; exact hk)
    · rw [c] at hk; cases hk; omega
  refine ⟨v', ⟨heap_setCell_same w2 g 2 _ _ _ hb, ⟨o.1, ?_⟩, le, ok, h.dy, own_form1 o, up, pos⟩, ?_, fun k hk => ?_⟩
  · rcases o.2 with e | ⟨b, c, cur, e, hb, hh, r⟩
    · exact .inl e
    · exact .inr ⟨b, c, cur, e, hb, (heap_setCell_other w2 _ b _ (hne b (by rw [e]; rfl))).trans hh, r⟩
  · exact ((Fr.below hw).trans f (fun _ h => h) (fun k _ h => .inr h)).same (Fr.set (.inl rfl) _)
  · rcases ha with c | c
    · exact .inl (by rw [← c]; exact hk)
    · rw [c] at hk; cases hk; exact .inr hw.size
set_option maxRecDepth 100000 in
set_option maxHeartbeats 4000000 in
theorem list_any (g : Nat) (v : Value) (d : Int) (cs : List Ct) (s : Sp) (w : World) (h : Rp w g v d cs) (hs : s.ok) :
    Calls Try.prog 12 #[.pointer (some ⟨g, 0, none⟩), .agg s.cells] w fun e w' => e = .returned (.int .i64 (listA d cs s)) ∧ RpN w g v d (listC d cs s) w' := by
  obtain ⟨W0, hW0⟩ : ∃ W0, w.alloc (.cells s.cells 33) = W0 := ⟨_, rfl⟩
  have B0 := Lib.hid (below_new w (.cells s.cells 33))
  have X0 := Lib.hid (box_new w hs.len)
  rw [hW0] at B0 X0
  have H0 := Lib.hid (h.below B0.out)
  have HH := Lib.hid h
  have M := missing_no H0.out.c0
  have FI := find_any g v d cs s.nu W0 H0.out hs.nu
  have MY := Lib.hid fun W => pmay_any s W hs
  have C0 := X0.out.cell 0
  rw [Sp.c0] at C0
  have HW0 := Lib.hid hW0
  have HS := Lib.hid hs
  have HG := Lib.hid h.gl
  have RX := Lib.hid fun (W : World) (q : Below W0.heap.size W0 W) => X0.out.below q
  have CLA := Lib.hid fun (W : World) (q : Below W0.heap.size W0 W) => (X0.out.below q).cell 23
  rw [Sp.c23 hs.len] at CLA
  have CFI := Lib.hid fun (W : World) (q : Below W0.heap.size W0 W) => (X0.out.below q).cell 24
  rw [Sp.c24 hs.len] at CFI
  have CD := Lib.hid fun (W : World) (q : Below W0.heap.size W0 W) => (H0.out.below q).c1
  have CV := Lib.hid fun (W : World) (q : Below W0.heap.size W0 W) => (H0.out.below q).c2
  obtain ⟨r, hr⟩ : ∃ r, listA d cs s = r := ⟨_, rfl⟩
  rw [hr]
  obtain ⟨cs', hc⟩ : ∃ c, listC d cs s = c := ⟨_, rfl⟩
  rw [hc]
  have nz : r ≠ 0 → cs' = cs := fun hn => by rw [← hc, listC, if_neg (by rw [hr]; exact hn)]
  obtain ⟨d1, d2⟩ := h.dy
  obtain ⟨la1, la2⟩ := hs.la
  have hl16 := h.le
  obtain ⟨sp, hsp⟩ : ∃ k, spotC cs s.nu = k := ⟨_, rfl⟩
  have hsl : sp ≤ cs.length := by rw [← hsp]; exact spot_le cs s.nu
  rw [hsp] at FI
  obtain ⟨A, c, rfl⟩ := h.one
  obtain ⟨n, hl⟩ : ∃ n, cs.length = n := ⟨_, rfl⟩
  rw [hl] at hsl hl16 CV
  rw [hl] at HH H0 ⊢
  have HL := Lib.hid hl
  clear h hs hW0
  unfold listA at hr
  cases hm : mayB s
  · rw [hm] at hr MY
    have hr2 : 2 = r := by simpa using hr
    subst hr2
    have e := nz (by decide)
    subst e
    generalize (placeC cs' s.nu).isSome = pb at *
    clear hr hc nz hsp
    go_enter Try.func12, Try.ntmps12
    go_wp2_with fail
    rw [HW0.out]
    refine M.mono ?_; rintro e w2 ⟨rfl, rfl⟩
    go_wp2_with fail
    refine FI.mono ?_; rintro e w1 ⟨rfl, q⟩
    have Q1 := Lib.hid q
    have RB := Lib.hid (RX.out _ q)
    clear q
    go_wp2_with ((with_reducible refine wl_load_sp w.heap.size RB.out ?_ ?_ ?_); rfl; rfl)
    refine (MY.out _).mono ?_; rintro e w2 ⟨rfl, q⟩
    have Q2 := Lib.hid (Q1.out.trans (q.mono Q1.out.size))
    clear q
    go_wp2_with fail
    go_ret
    refine ⟨rfl, ?_⟩
    exact rpn_same HH.out (B0.out.trans (Q2.out.mono B0.out.size))
  · rw [hm] at hr MY
    have hr := (if_pos rfl).symm.trans hr
    cases hp : (placeC cs s.nu).isSome
    · rw [hp] at hr FI
      have hr := (if_neg (by decide)).symm.trans hr
      cases hla : decide (s.la < d)
      · have hr := (if_neg (of_decide_eq_false hla)).symm.trans hr
        cases hfu : decide ((16 : Int) ≤ (n : Int))
        · have hn15 : n < 16 := by have := of_decide_eq_false hfu; omega
          have hr := (if_neg (by omega)).symm.trans hr
          subst hr
          have EC := Lib.hid (hc.symm.trans (by unfold listC; rw [if_pos (by unfold listA; rw [hm, hp, if_pos rfl, if_neg (by decide), if_neg (of_decide_eq_false hla), if_neg (by rw [hl]; omega)])]))
          rw [hsp] at EC
          have UP := Lib.hid (HH.out.up.list d s)
          rw [hc] at UP
          have NU : Hid (1 ≤ s.nu) := Lib.hid (by have := (head_parts (may_head hm)).1; have := HS.out.nu; omega)
          have IN := Lib.hid fun (W : World) (o : W.ownsRow 0 45 27 (.slice A n c) n (flat cs)) (vb : Nat) (hx : Cb W vb ⟨s, 1, s.fi⟩) (hvb : (Value.slice A n c).ownBlock ≠ some vb) =>
            insert_any (.slice A n c) n sp vb cs ⟨s, 1, s.fi⟩ W o HL.out (by omega) hsl (fun y hy => (HH.out.ok y hy).sp.len) hx hvb
          have GN : Hid (∀ k, (Value.slice A n c).ownBlock = some k → k ≠ g ∧ k < w.heap.size) := Lib.hid fun k hk => ⟨HH.out.apart k hk, HH.out.vl k hk⟩
          obtain ⟨ob, hob⟩ : ∃ o, (Value.slice A n c).ownBlock = o := ⟨_, rfl⟩
          have HOB := Lib.hid hob
          clear hc nz hsp hla hp hm hl hob hfu
          go_enter Try.func12, Try.ntmps12
          go_wp2_with fail
          rw [HW0.out]
          refine M.mono ?_; rintro e w2 ⟨rfl, rfl⟩
          go_wp2_with fail
          refine FI.mono ?_; rintro e w1 ⟨rfl, q⟩
          have Q1 := Lib.hid q
          have RB := Lib.hid (RX.out _ q)
          clear q
          go_wp2_with ((with_reducible refine wl_load_sp w.heap.size RB.out ?_ ?_ ?_); rfl; rfl)
          refine (MY.out _).mono ?_; rintro e w2 ⟨rfl, q⟩
          have Q2 := Lib.hid (Q1.out.trans (q.mono Q1.out.size))
          clear q
          have f1 := CLA.out _ Q2.out
          have f2 := CD.out _ Q2.out
          go_wp2_with fail
          go_quiet (fail)
          have Q3 : Hid (Below W0.heap.size W0 (w2.drewN nq)) := Lib.hid (below_drewN Q2.out nq)
          generalize hw3 : w2.drewN nq = w3 at *
          clear hw3 f1 f2 Q2
          have f3 := CV.out _ Q3.out
          go_wp2_with fail
          clear f3
          have R3 := Lib.hid (H0.out.below Q3.out)
          have K3 := Lib.hid (B0.out.trans (Q3.out.mono B0.out.size))
          have Z3 := Lib.hid K3.out.size
          have Y3 : Hid (w.heap.size < w3.heap.size) := Lib.hid (by have h1 := Q3.out.size; have h2 : W0.heap.size = w.heap.size + 1 := (by rw [← HW0.out]; simp); omega)
          have FX : Hid (∀ W, Fr (fun k => ob = some k ∨ k = g) w3 W → Box W w.heap.size s) := Lib.hid fun W f => ⟨(f.at' _ Y3.out (fun hh => hh.elim (fun e => by have h9 := (GN.out w.heap.size (HOB.out.trans e)).2; omega) (fun e => by have h9 := HG.out; omega))).trans (RX.out _ Q3.out).1, HS.out.len⟩
          have FF : Hid (∀ W, Fr (fun k => ob = some k ∨ k = g) w3 W → W.cell? ⟨w.heap.size, 24, none⟩ = some (.int .i64 s.fi)) := Lib.hid fun W f => by rw [(FX.out W f).cell 24, Sp.c24 HS.out.len]
          have cv := CV.out _ Q3.out
          refine wp_region_held_drew (S := fun U => Fr (fun k => ob = some k ∨ k = g) w3 U) (by kernel_rfl) ((Fr.refl _ _).drewN 1) (fun hH => ?_)
          refine wpAnyH_take (i := 0) (v := .pointer (some ⟨g, 0, none⟩)) rfl (by kernel_rfl) (by kernel_rfl) (by kernel_rfl) (fun _ _ _ h => h) (.inl ⟨by rfl, ?_⟩) (by assumption) ?_
          · intro W hW; go_simp
          try simp only [List.getElem_toArray, List.getElem_cons_zero, Act.put, List.setIfInBounds_toArray, List.set_cons_zero, List.set_cons_succ]
          refine wpAnyH_take (i := 1) (v := .pointer (some ⟨g, 0, none⟩)) rfl (by kernel_rfl) (by kernel_rfl) (by kernel_rfl) (fun _ _ _ h => h) (.inl ⟨by rfl, ?_⟩) (by assumption) ?_
          · intro W hW; go_simp
          try simp only [List.getElem_toArray, List.getElem_cons_zero, List.getElem_cons_succ, Act.put, List.setIfInBounds_toArray, List.set_cons_zero, List.set_cons_succ]
          refine wpAnyH_take (i := 2) (v := .pointer (some ⟨g, 0, none⟩)) rfl (by kernel_rfl) (by kernel_rfl) (by kernel_rfl) (fun _ _ _ h => h) (.inl ⟨by rfl, ?_⟩) (by assumption) ?_
          · intro W hW; go_simp
          try simp only [List.getElem_toArray, List.getElem_cons_zero, List.getElem_cons_succ, Act.put, List.setIfInBounds_toArray, List.set_cons_zero, List.set_cons_succ]
          refine wpAnyH_take (i := 3) (v := .pointer (some ⟨g, 2, none⟩)) rfl (by kernel_rfl) (by kernel_rfl) (by kernel_rfl) (fun _ _ _ h => h) (.inl ⟨by rfl, ?_⟩) (by assumption) ?_
          · intro W hW; go_simp
          try simp only [List.getElem_toArray, List.getElem_cons_zero, List.getElem_cons_succ, Act.put, List.setIfInBounds_toArray, List.set_cons_zero, List.set_cons_succ]
          refine wpAnyH_take (i := 5) (v := .int .i64 sp) rfl (by kernel_rfl) (by kernel_rfl) (by kernel_rfl) (fun _ _ _ h => h) (.inl ⟨by rfl, ?_⟩) (by assumption) ?_
          · intro W hW; go_simp
          try simp only [List.getElem_toArray, List.getElem_cons_zero, List.getElem_cons_succ, Act.put, List.setIfInBounds_toArray, List.set_cons_zero, List.set_cons_succ]
          refine wpAnyH_take (i := 6) (v := .agg s.cells) rfl (by kernel_rfl) (by kernel_rfl) (by kernel_rfl) (fun _ _ _ h => h) (yields_load_sp (by rfl) (.tmp 3) rfl w.heap.size rfl FX.out) (by assumption) ?_
          try simp only [List.getElem_toArray, List.getElem_cons_zero, List.getElem_cons_succ, Act.put, List.setIfInBounds_toArray, List.set_cons_zero, List.set_cons_succ]
          refine wpAnyH_take (i := 7) (v := .pointer (some ⟨w.heap.size, 24, none⟩)) rfl (by kernel_rfl) (by kernel_rfl) (by kernel_rfl) (fun _ _ _ h => h) (.inl ⟨by rfl, ?_⟩) (by assumption) ?_
          · intro W hW; go_simp
          try simp only [List.getElem_toArray, List.getElem_cons_zero, List.getElem_cons_succ, Act.put, List.setIfInBounds_toArray, List.set_cons_zero, List.set_cons_succ]
          refine wpAnyH_take (i := 8) (v := .int .i64 s.fi) rfl (by kernel_rfl) (by kernel_rfl) (by kernel_rfl) (fun _ _ _ h => h) (.inl ⟨by rfl, ?_⟩) (by assumption) ?_
          · intro W hW; have h1 := FF.out W hW; go_simp
          try simp only [List.getElem_toArray, List.getElem_cons_zero, List.getElem_cons_succ, Act.put, List.setIfInBounds_toArray, List.set_cons_zero, List.set_cons_succ]
          refine wpAnyH_take (i := 9) (v := .agg (Ct.mk s 1 s.fi).cells) rfl (by kernel_rfl) (by kernel_rfl) (by kernel_rfl) (fun _ _ _ h => h) (yields_build_ct (by rfl) (.tmp 43) (.const (.int .u8 1)) (.tmp 45) rfl s 1 s.fi HS.out.len rfl rfl rfl) (by assumption) ?_
          try simp only [List.getElem_toArray, List.getElem_cons_zero, List.getElem_cons_succ, Act.put, List.setIfInBounds_toArray, List.set_cons_zero, List.set_cons_succ]
          obtain ⟨w4, hw4⟩ : ∃ w4, w3.drew.alloc (.cells (Ct.mk s 1 s.fi).cells 45) = w4 := ⟨_, rfl⟩
          have b4 : Below w3.heap.size w3 w4 := by rw [← hw4]; exact (Below.refl w3.heap.size w3).drew.alloc (Nat.le_refl _) _
          have X4 : Hid (Cb w4 w3.heap.size ⟨s, 1, s.fi⟩) := Lib.hid (by rw [← hw4]; exact cb_new w3.drew HS.out.len)
          have R4 := Lib.hid (R3.out.below b4)
          have K4 := Lib.hid (K3.out.trans (b4.mono K3.out.size))
          have O4 : Hid (w4.ownsRow 0 45 27 (.slice A n c) n (flat cs)) := Lib.hid (by have h9 := R4.out.own; rw [HL.out] at h9; exact h9)
          have hH4 : Fr (fun k => ob = some k ∨ k = g) w3 w4 := Fr.below b4
          have cv4 := R4.out.c2
          refine wpAnyH_ready (rs := [4, 10]) (by decide +kernel) (by simp) (AllReadyH.cons rfl (fun KQ hK => ?_) (AllReadyH.cons rfl (fun KQ hK => ?_) AllReadyH.nil))
          · go_simp
            refine hK.out _ _ hH (fun _ => ?_)
            clear hK
            try simp only [List.setIfInBounds_toArray, List.set_cons_zero, List.set_cons_succ]
            refine wpAnyH_ready (rs := [10]) (by decide +kernel) (by simp) (AllReadyH.cons rfl (fun KQ hK => ?_) AllReadyH.nil)
            rw [if_pos (by rfl)]
            refine wp_bs_ct rfl ⟨s, 1, s.fi⟩ HS.out.len rfl ?_
            rw [hw4]
            refine hK.out _ _ hH4 (fun _ => ?_)
            clear hK
            try simp only [List.getElem_toArray, List.getElem_cons_zero, List.getElem_cons_succ, Act.put, List.setIfInBounds_toArray, List.set_cons_zero, List.set_cons_succ]
            refine wpAnyH_ready (rs := [11]) (by decide +kernel) (by simp) (AllReadyH.cons rfl (fun KQ hK => ?_) AllReadyH.nil)
            go_simp
            refine (IN.out _ O4.out _ X4.out (fun e => by have h9 := (GN.out _ e).2; have h8 := Y3.out; omega)).mono ?_; rintro e0 W5 ⟨v5, rfl, o5, f5, a5⟩
            obtain ⟨A5, c5, rfl⟩ := own_form1 o5
            have F5 := Lib.hid f5
            have O5 := Lib.hid o5
            have A5 := Lib.hid a5
            have hH5 : Fr (fun k => ob = some k ∨ k = g) w3 W5 := hH4.same (f5.mono (fun k e => .inl (HOB.out.symm.trans e)))
            have HH5 := Lib.hid hH5
            refine hK.out _ _ hH5 (fun _ => ?_)
            clear hK f5 o5 a5 hH5
            try simp only [List.setIfInBounds_toArray, List.set_cons_zero, List.set_cons_succ]
            refine wpAnyH_take (i := 12) (v := .pointer (some ⟨g, 0, none⟩)) rfl (by kernel_rfl) (by kernel_rfl) (by kernel_rfl) (fun _ _ _ h => h) (.inl ⟨by rfl, ?_⟩) HH5.out ?_
            · intro W hW; go_simp
            try simp only [List.getElem_toArray, List.getElem_cons_zero, List.getElem_cons_succ, Act.put, List.setIfInBounds_toArray, List.set_cons_zero, List.set_cons_succ]
            refine wpAnyH_take (i := 13) (v := .pointer (some ⟨g, 2, none⟩)) rfl (by kernel_rfl) (by kernel_rfl) (by kernel_rfl) (fun _ _ _ h => h) (.inl ⟨by rfl, ?_⟩) HH5.out ?_
            · intro W hW; go_simp
            try simp only [List.getElem_toArray, List.getElem_cons_zero, List.getElem_cons_succ, Act.put, List.setIfInBounds_toArray, List.set_cons_zero, List.set_cons_succ]
            have hgb : W5.heap[g]? = some (.cells #[.bool true, .int .u32 d, .slice A n c] 51 (0, 0)) := (F5.out.at' g R4.out.gl (fun e => (GN.out g e).1 rfl)).trans R4.out.blk
            have hcg : W5.cell? ⟨g, 2, none⟩ = some (.slice A n c) := by rw [cell_of_row _ _ _ _ _ _ hgb]; rfl
            have hfz : W5.frozen? ⟨g, 2, none⟩ = false := by simp [World.frozen?, hgb]
            clear hgb
            refine wpAnyH_ready (rs := [14]) (by decide +kernel) (by simp) (AllReadyH.cons rfl (fun KQ hK => ?_) AllReadyH.nil)
            go_simp
            refine hK.out _ _ (HH5.out.same (Fr.set (p := ⟨g, 2, none⟩) (.inr rfl) _)) (fun _ => ?_)
            clear hK hcg hfz
            try simp only [List.setIfInBounds_toArray, List.set_cons_zero, List.set_cons_succ]
            refine wpAnyH_done (by decide +kernel) ?_ _
            go_wp2_with fail
            go_ret
            refine ⟨rfl, ?_⟩
            rw [EC.out] at UP ⊢
            have e1 : (cs.take sp ++ (Ct.mk s 1 s.fi) :: cs.drop sp).length = n + 1 := ins_len HL.out hsl
            exact rpn_put R4.out K4.out HG.out (by rw [e1]; exact O5.out) F5.out A5.out (by rw [e1]; omega) (list_ok HH.out.ok HS.out sp) UP.out (list_pos HH.out.pos NU.out sp)
          · rw [if_pos (by rfl)]
            refine wp_bs_ct rfl ⟨s, 1, s.fi⟩ HS.out.len rfl ?_
            rw [hw4]
            refine hK.out _ _ hH4 (fun _ => ?_)
            clear hK
            try simp only [List.getElem_toArray, List.getElem_cons_zero, List.getElem_cons_succ, Act.put, List.setIfInBounds_toArray, List.set_cons_zero, List.set_cons_succ]
            refine wpAnyH_ready (rs := [4]) (by decide +kernel) (by simp) (AllReadyH.cons rfl (fun KQ hK => ?_) AllReadyH.nil)
            go_simp
            refine hK.out _ _ hH4 (fun _ => ?_)
            clear hK
            try simp only [List.setIfInBounds_toArray, List.set_cons_zero, List.set_cons_succ]
            refine wpAnyH_ready (rs := [11]) (by decide +kernel) (by simp) (AllReadyH.cons rfl (fun KQ hK => ?_) AllReadyH.nil)
            go_simp
            refine (IN.out _ O4.out _ X4.out (fun e => by have h9 := (GN.out _ e).2; have h8 := Y3.out; omega)).mono ?_; rintro e0 W5 ⟨v5, rfl, o5, f5, a5⟩
            obtain ⟨A5, c5, rfl⟩ := own_form1 o5
            have F5 := Lib.hid f5
            have O5 := Lib.hid o5
            have A5 := Lib.hid a5
            have hH5 : Fr (fun k => ob = some k ∨ k = g) w3 W5 := hH4.same (f5.mono (fun k e => .inl (HOB.out.symm.trans e)))
            have HH5 := Lib.hid hH5
            refine hK.out _ _ hH5 (fun _ => ?_)
            clear hK f5 o5 a5 hH5
            try simp only [List.setIfInBounds_toArray, List.set_cons_zero, List.set_cons_succ]
            refine wpAnyH_take (i := 12) (v := .pointer (some ⟨g, 0, none⟩)) rfl (by kernel_rfl) (by kernel_rfl) (by kernel_rfl) (fun _ _ _ h => h) (.inl ⟨by rfl, ?_⟩) HH5.out ?_
            · intro W hW; go_simp
            try simp only [List.getElem_toArray, List.getElem_cons_zero, List.getElem_cons_succ, Act.put, List.setIfInBounds_toArray, List.set_cons_zero, List.set_cons_succ]
            refine wpAnyH_take (i := 13) (v := .pointer (some ⟨g, 2, none⟩)) rfl (by kernel_rfl) (by kernel_rfl) (by kernel_rfl) (fun _ _ _ h => h) (.inl ⟨by rfl, ?_⟩) HH5.out ?_
            · intro W hW; go_simp
            try simp only [List.getElem_toArray, List.getElem_cons_zero, List.getElem_cons_succ, Act.put, List.setIfInBounds_toArray, List.set_cons_zero, List.set_cons_succ]
            have hgb : W5.heap[g]? = some (.cells #[.bool true, .int .u32 d, .slice A n c] 51 (0, 0)) := (F5.out.at' g R4.out.gl (fun e => (GN.out g e).1 rfl)).trans R4.out.blk
            have hcg : W5.cell? ⟨g, 2, none⟩ = some (.slice A n c) := by rw [cell_of_row _ _ _ _ _ _ hgb]; rfl
            have hfz : W5.frozen? ⟨g, 2, none⟩ = false := by simp [World.frozen?, hgb]
            clear hgb
            refine wpAnyH_ready (rs := [14]) (by decide +kernel) (by simp) (AllReadyH.cons rfl (fun KQ hK => ?_) AllReadyH.nil)
            go_simp
            refine hK.out _ _ (HH5.out.same (Fr.set (p := ⟨g, 2, none⟩) (.inr rfl) _)) (fun _ => ?_)
            clear hK hcg hfz
            try simp only [List.setIfInBounds_toArray, List.set_cons_zero, List.set_cons_succ]
            refine wpAnyH_done (by decide +kernel) ?_ _
            go_wp2_with fail
            go_ret
            refine ⟨rfl, ?_⟩
            rw [EC.out] at UP ⊢
            have e1 : (cs.take sp ++ (Ct.mk s 1 s.fi) :: cs.drop sp).length = n + 1 := ins_len HL.out hsl
            exact rpn_put R4.out K4.out HG.out (by rw [e1]; exact O5.out) F5.out A5.out (by rw [e1]; omega) (list_ok HH.out.ok HS.out sp) UP.out (list_pos HH.out.pos NU.out sp)
        · have hr := (if_pos (by have := of_decide_eq_true hfu; omega)).symm.trans hr
          subst hr
          have e := nz (by decide)
          subst e
          clear hc nz hsp hp hm hl
          go_enter Try.func12, Try.ntmps12
          go_wp2_with fail
          rw [HW0.out]
          refine M.mono ?_; rintro e w2 ⟨rfl, rfl⟩
          go_wp2_with fail
          refine FI.mono ?_; rintro e w1 ⟨rfl, q⟩
          have Q1 := Lib.hid q
          have RB := Lib.hid (RX.out _ q)
          clear q
          go_wp2_with ((with_reducible refine wl_load_sp w.heap.size RB.out ?_ ?_ ?_); rfl; rfl)
          refine (MY.out _).mono ?_; rintro e w2 ⟨rfl, q⟩
          have Q2 := Lib.hid (Q1.out.trans (q.mono Q1.out.size))
          clear q
          have f1 := CLA.out _ Q2.out
          have f2 := CD.out _ Q2.out
          go_wp2_with fail
          go_quiet (fail)
          have Q3 : Hid (Below W0.heap.size W0 (w2.drewN nq)) := Lib.hid (below_drewN Q2.out nq)
          have f3 := CV.out _ Q3.out
          go_wp2_with fail
          go_ret
          refine ⟨rfl, ?_⟩
          exact rpn_same HH.out (B0.out.trans (Q3.out.mono B0.out.size))
      · have hr := (if_pos (of_decide_eq_true hla)).symm.trans hr
        subst hr
        have e := nz (by decide)
        subst e
        clear hc nz hsp hp hm hl
        go_enter Try.func12, Try.ntmps12
        go_wp2_with fail
        rw [HW0.out]
        refine M.mono ?_; rintro e w2 ⟨rfl, rfl⟩
        go_wp2_with fail
        refine FI.mono ?_; rintro e w1 ⟨rfl, q⟩
        have Q1 := Lib.hid q
        have RB := Lib.hid (RX.out _ q)
        clear q
        go_wp2_with ((with_reducible refine wl_load_sp w.heap.size RB.out ?_ ?_ ?_); rfl; rfl)
        refine (MY.out _).mono ?_; rintro e w2 ⟨rfl, q⟩
        have Q2 := Lib.hid (Q1.out.trans (q.mono Q1.out.size))
        clear q
        have f1 := CLA.out _ Q2.out
        have f2 := CD.out _ Q2.out
        go_wp2_with fail
        go_quiet (fail)
        have Q3 : Hid (Below W0.heap.size W0 (w2.drewN nq)) := Lib.hid (below_drewN Q2.out nq)
        go_wp2_with fail
        go_ret
        refine ⟨rfl, ?_⟩
        exact rpn_same HH.out (B0.out.trans (Q3.out.mono B0.out.size))
    · rw [hp] at hr FI
      have hr := (if_pos rfl).symm.trans hr
      subst hr
      have e := nz (by decide)
      subst e
      clear hc nz hsp hp hm hl
      go_enter Try.func12, Try.ntmps12
      go_wp2_with fail
      rw [HW0.out]
      refine M.mono ?_; rintro e w2 ⟨rfl, rfl⟩
      go_wp2_with fail
      refine FI.mono ?_; rintro e w1 ⟨rfl, q⟩
      have Q1 := Lib.hid q
      have RB := Lib.hid (RX.out _ q)
      clear q
      go_wp2_with ((with_reducible refine wl_load_sp w.heap.size RB.out ?_ ?_ ?_); rfl; rfl)
      refine (MY.out _).mono ?_; rintro e w2 ⟨rfl, q⟩
      have Q2 := Lib.hid (Q1.out.trans (q.mono Q1.out.size))
      clear q
      go_wp2_with fail
      go_ret
      refine ⟨rfl, ?_⟩
      exact rpn_same HH.out (B0.out.trans (Q2.out.mono B0.out.size))
end Go.Proofs.Ytejhnfkljfdejaa
