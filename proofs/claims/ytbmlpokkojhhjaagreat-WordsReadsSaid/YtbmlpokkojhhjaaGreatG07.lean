/- The document's MayCommand (by genWdj.py). -/
import Derived.Test.YtbmlpokkojhhjaaGreatG06
namespace Go.Proofs.YtbmlpokkojhhjaaGreat
open Go.RowKit
set_option linter.unusedVariables false
set_option linter.unusedSimpArgs false

/-- Whether a field that the kind has not is something. -/
noncomputable def nzF (c : Cm) : Nat → Bool
  | 0 => (c.ac != 0)
  | 1 => (c.ct != 0)
  | 2 => (c.nu != 0)
  | 3 => (c.am != 0)
  | 4 => !eqSp15 c.sp zeroSpW
  | 5 => c.on
  | 6 => c.bu
  | 7 => (c.as' != 0)
  | 8 => (c.px != 0)
  | _ => (c.qt != 0)
def hB (c : Cm) (i : Nat) : Bool := hasB ((flds c.kd).map ltr) (ltr i)
theorem ltr_inj : ∀ i, i < 10 → ∀ j, j < 10 → ltr i = ltr j → i = j := by decide
theorem hB_iff {c : Cm} {i : Nat} (hi : i < 10) : hB c i = true ↔ i ∈ flds c.kd := by
  unfold hB hasB
  rw [List.any_eq_true]
  constructor
  · rintro ⟨x, hx, e⟩
    obtain ⟨j, hj, rfl⟩ := List.mem_map.1 hx
    have e1 : (ltr j : Int) = ltr i := of_decide_eq_true e
    have := ltr_inj j (flds_lt _ j hj) i hi (by omega)
    subst this
    exact hj
  · intro h
    exact ⟨ltr i, List.mem_map.2 ⟨i, h, rfl⟩, by simp⟩
theorem nzF_iff {c : Cm} : ∀ {i : Nat}, i < 10 → (nzF c i = false ↔ noF c i)
  | 0, _ => by simp [nzF, noF]
  | 1, _ => by simp [nzF, noF]
  | 2, _ => by simp [nzF, noF]
  | 3, _ => by simp [nzF, noF]
  | 4, _ => by simp [nzF, noF, eqSp15]
  | 5, _ => by simp [nzF, noF]
  | 6, _ => by simp [nzF, noF]
  | 7, _ => by simp [nzF, noF]
  | 8, _ => by simp [nzF, noF]
  | 9, _ => by simp [nzF, noF]
/-- Something that the kind has not. -/
noncomputable def badC (c : Cm) : Bool := ((((((((((!hB c 0 && nzF c 0) || (!hB c 1 && nzF c 1)) || (!hB c 2 && nzF c 2)) || (!hB c 3 && nzF c 3)) || (!hB c 4 && nzF c 4)) || (!hB c 5 && nzF c 5)) || (!hB c 6 && nzF c 6)) || (!hB c 7 && nzF c 7)) || (!hB c 8 && nzF c 8)) || (!hB c 9 && nzF c 9))
theorem badC_no {c : Cm} (h : badC c = false) : ∀ i, i < 10 → (!hB c i && nzF c i) = false := by
  unfold badC at h
  simp only [Bool.or_eq_false_iff] at h
  obtain ⟨⟨⟨⟨⟨⟨⟨⟨⟨a0, a1⟩, a2⟩, a3⟩, a4⟩, a5⟩, a6⟩, a7⟩, a8⟩, a9⟩ := h
  intro i hi
  match i, hi with
  | 0, _ => exact a0
  | 1, _ => exact a1
  | 2, _ => exact a2
  | 3, _ => exact a3
  | 4, _ => exact a4
  | 5, _ => exact a5
  | 6, _ => exact a6
  | 7, _ => exact a7
  | 8, _ => exact a8
  | 9, _ => exact a9
theorem badC_yes {c : Cm} (h : badC c = true) : ∃ i, i < 10 ∧ (!hB c i && nzF c i) = true := by
  refine Classical.byContradiction fun hn => ?_
  have hall : ∀ i, i < 10 → (!hB c i && nzF c i) = false := fun i hi => by
    cases e : (!hB c i && nzF c i)
    · rfl
    · exact absurd ⟨i, hi, e⟩ hn
  unfold badC at h
  simp only [hall 0 (by omega), hall 1 (by omega), hall 2 (by omega), hall 3 (by omega), hall 4 (by omega), hall 5 (by omega), hall 6 (by omega), hall 7 (by omega), hall 8 (by omega), hall 9 (by omega)] at h
  cases h
theorem mcB_bad {c : Cm} (h : badC c = true) : mcB c = false := by
  obtain ⟨i, hi, e⟩ := badC_yes h
  simp only [Bool.and_eq_true, Bool.not_eq_true'] at e
  refine mc_bad hi (fun m => ?_) (fun k => ?_)
  · rw [(hB_iff hi).2 m] at e; cases e.1
  · rw [(nzF_iff hi).2 k] at e; cases e.2
theorem mcB_good {c : Cm} (ka : 1 ≤ c.kd) (kb : c.kd ≤ 14) (h : badC c = false) : mcB c = (!hB c 4 || mayB c.sp) := by
  have hno : ∀ i, i < 10 → i ∉ flds c.kd → noF c i := fun i hi hm => by
    have := badC_no h i hi
    have e : hB c i = false := by
      cases k : hB c i
      · rfl
      · exact absurd ((hB_iff hi).1 k) hm
    rw [e] at this
    exact (nzF_iff hi).1 (by simpa using this)
  cases h4 : hB c 4
  · exact mcB_yes.2 ⟨⟨ka, kb⟩, hno, fun m => by rw [(hB_iff (by omega)).2 m] at h4; cases h4⟩
  · show mcB c = (false || mayB c.sp)
    rw [Bool.false_or]
    cases e : mayB c.sp
    · cases e2 : mcB c
      · rfl
      · have := (mcB_yes.1 e2).sp ((hB_iff (by omega)).1 h4)
        rw [e] at this; cases this
    · exact mcB_yes.2 ⟨⟨ka, kb⟩, hno, fun _ => e⟩
section
variable {o : Oper} {a : Act} {w : World}
theorem gx_sp15 {x : Operand} {s : Sp} {b k : Nat} (ho : o.op = .load 29 x) (hx : a.eval x = .pointer (some ⟨b, k, none⟩)) (hb : w.rangeAt b k s.cellL) (hl : s.sh.length = 16) : (execOp a.eval o).run Tryz.prog w = .ok (.value (.agg s.cells)) w := by
  unfold execOp
  simp only [ho, hx, Instr.loadAt, Instr.sureAddr, Sem.run_bind, Sem.run_pure, Result.andThen_ok, run_loadVar_mid w b k 29 s.cellL _ hb Tryz.underlying29 rfl (by rw [info_sp, sp_lenL15 hl])]
  rfl
theorem gx_nsp15 {x y : Operand} {t2 : TypeId} {u v : Sp} {z : Bool} (ho : o.op = .binOp .neq 29 x y t2) (hu : u.ok) (hv : v.ok) (hx : a.eval x = .agg u.cells) (hy : a.eval y = .agg v.cells) (hz : (!eqSp15 u v) = z) : (execOp a.eval o).run Tryz.prog w = .ok (.value (.bool z)) w := by
  rw [← hz]; exact exec_neq_sp15 ho hu hv hx hy w
theorem gx_bsp15 (ho : o.op = .build 29 #[]) : (execOp a.eval o).run Tryz.prog w = .ok (.value (.agg zeroSpW.cells)) w := by
  have e : (Array.map (fun ((i : Nat), (x : Operand)) => (i, a.eval x)) #[]).toList = [] := by simp
  unfold execOp
  simp only [ho, Sem.run_bind, run_build w 29 _ _ (by rw [e]; exact built_zsp15), Result.andThen_ok, Sem.run_pure]
end
set_option maxRecDepth 100000 in
set_option maxHeartbeats 64000000 in
theorem rmayc15_in (c : Cm) (w : World) (ok : c.ok) (ka : 1 ≤ c.kd) (kb : c.kd ≤ 14) : Calls Tryz.prog 24 #[.agg (ECm.cells c).toArray] w fun e w' => e = .returned (.bool (mcB c)) ∧ Below w.heap.size w w' := by
  obtain ⟨W1, hW1⟩ : ∃ W1, w.alloc (.cells (ECm.cells c).toArray 32) = W1 := ⟨_, rfl⟩
  have x1 : ECm.Bx 32 W1 w.heap.size c := by rw [← hW1]; exact gbx_new w c
  have B1 : Hid (Below w.heap.size w W1) := Lib.hid (by rw [← hW1]; exact below_new w _)
  have k0 : W1.cell? ⟨w.heap.size, 0, none⟩ = some (.int .u8 c.kd) := cm_cell15 x1 ((cm_hd c (i := 0) (by omega)).trans rfl)
  have K0 := Lib.hid (show W1.cell? ⟨w.heap.size, 1, none⟩ = some (.int .u32 c.ac) from cm_cell15 x1 ((cm_hd c (i := 1) (by omega)).trans rfl))
  have K1 := Lib.hid (show W1.cell? ⟨w.heap.size, 2, none⟩ = some (.int .u32 c.ct) from cm_cell15 x1 ((cm_hd c (i := 2) (by omega)).trans rfl))
  have K2 := Lib.hid (show W1.cell? ⟨w.heap.size, 3, none⟩ = some (.int .u64 c.nu) from cm_cell15 x1 ((cm_hd c (i := 3) (by omega)).trans rfl))
  have K3 := Lib.hid (show W1.cell? ⟨w.heap.size, 4, none⟩ = some (.int .i64 c.am) from cm_cell15 x1 ((cm_hd c (i := 4) (by omega)).trans rfl))
  have K5 := Lib.hid (show W1.cell? ⟨w.heap.size, 30, none⟩ = some (.bool c.on) from cm_cell15 x1 ((cm_tl c 0).trans rfl))
  have K6 := Lib.hid (show W1.cell? ⟨w.heap.size, 31, none⟩ = some (.bool c.bu) from cm_cell15 x1 ((cm_tl c 1).trans rfl))
  have K7 := Lib.hid (show W1.cell? ⟨w.heap.size, 32, none⟩ = some (.int .u8 c.as') from cm_cell15 x1 ((cm_tl c 2).trans rfl))
  have K8 := Lib.hid (show W1.cell? ⟨w.heap.size, 33, none⟩ = some (.int .i64 c.px) from cm_cell15 x1 ((cm_tl c 3).trans rfl))
  have K9 := Lib.hid (show W1.cell? ⟨w.heap.size, 34, none⟩ = some (.int .i64 c.qt) from cm_cell15 x1 ((cm_tl c 4).trans rfl))
  have SPR := Lib.hid (cm_rng15 x1)
  have FI := Lib.hid fun w => rfields15 c.kd ok.kd w
  have HS := Lib.hid fun x w => rhas_k15 c.kd x w
  have HW1 := Lib.hid hW1
  have KAB := Lib.hid (And.intro ka kb)
  have OKS := Lib.hid ok.sp
  have ZOK := Lib.hid zeroSp_ok15
  have MY := Lib.hid fun w => rmay_any c.sp w ok.sp
  have d1 : decide (c.kd < 1) = false := decide_eq_false (by omega)
  have d2 : decide (14 < c.kd) = false := decide_eq_false (by omega)
  obtain ⟨fs, hfs⟩ : ∃ s, fsB c.kd = s := ⟨_, rfl⟩
  rw [hfs] at FI HS
  obtain ⟨h0, hh0⟩ : ∃ b, hasB ((flds c.kd).map ltr) 97 = b := ⟨_, rfl⟩
  have HS0 := Lib.hid fun w => HS.out 97 w
  rw [hh0] at HS0
  have HH0 := Lib.hid (show hB c 0 = h0 from hh0)
  obtain ⟨z0, hz0⟩ : ∃ b, nzF c 0 = b := ⟨_, rfl⟩
  have ZZ0 := Lib.hid hz0
  obtain ⟨h1, hh1⟩ : ∃ b, hasB ((flds c.kd).map ltr) 99 = b := ⟨_, rfl⟩
  have HS1 := Lib.hid fun w => HS.out 99 w
  rw [hh1] at HS1
  have HH1 := Lib.hid (show hB c 1 = h1 from hh1)
  obtain ⟨z1, hz1⟩ : ∃ b, nzF c 1 = b := ⟨_, rfl⟩
  have ZZ1 := Lib.hid hz1
  obtain ⟨h2, hh2⟩ : ∃ b, hasB ((flds c.kd).map ltr) 110 = b := ⟨_, rfl⟩
  have HS2 := Lib.hid fun w => HS.out 110 w
  rw [hh2] at HS2
  have HH2 := Lib.hid (show hB c 2 = h2 from hh2)
  obtain ⟨z2, hz2⟩ : ∃ b, nzF c 2 = b := ⟨_, rfl⟩
  have ZZ2 := Lib.hid hz2
  obtain ⟨h3, hh3⟩ : ∃ b, hasB ((flds c.kd).map ltr) 109 = b := ⟨_, rfl⟩
  have HS3 := Lib.hid fun w => HS.out 109 w
  rw [hh3] at HS3
  have HH3 := Lib.hid (show hB c 3 = h3 from hh3)
  obtain ⟨z3, hz3⟩ : ∃ b, nzF c 3 = b := ⟨_, rfl⟩
  have ZZ3 := Lib.hid hz3
  obtain ⟨h4, hh4⟩ : ∃ b, hasB ((flds c.kd).map ltr) 115 = b := ⟨_, rfl⟩
  have HS4 := Lib.hid fun w => HS.out 115 w
  rw [hh4] at HS4
  have HH4 := Lib.hid (show hB c 4 = h4 from hh4)
  obtain ⟨z4, hz4⟩ : ∃ b, nzF c 4 = b := ⟨_, rfl⟩
  have ZZ4 := Lib.hid hz4
  obtain ⟨h5, hh5⟩ : ∃ b, hasB ((flds c.kd).map ltr) 111 = b := ⟨_, rfl⟩
  have HS5 := Lib.hid fun w => HS.out 111 w
  rw [hh5] at HS5
  have HH5 := Lib.hid (show hB c 5 = h5 from hh5)
  obtain ⟨z5, hz5⟩ : ∃ b, nzF c 5 = b := ⟨_, rfl⟩
  have ZZ5 := Lib.hid hz5
  obtain ⟨h6, hh6⟩ : ∃ b, hasB ((flds c.kd).map ltr) 98 = b := ⟨_, rfl⟩
  have HS6 := Lib.hid fun w => HS.out 98 w
  rw [hh6] at HS6
  have HH6 := Lib.hid (show hB c 6 = h6 from hh6)
  obtain ⟨z6, hz6⟩ : ∃ b, nzF c 6 = b := ⟨_, rfl⟩
  have ZZ6 := Lib.hid hz6
  obtain ⟨h7, hh7⟩ : ∃ b, hasB ((flds c.kd).map ltr) 107 = b := ⟨_, rfl⟩
  have HS7 := Lib.hid fun w => HS.out 107 w
  rw [hh7] at HS7
  have HH7 := Lib.hid (show hB c 7 = h7 from hh7)
  obtain ⟨z7, hz7⟩ : ∃ b, nzF c 7 = b := ⟨_, rfl⟩
  have ZZ7 := Lib.hid hz7
  obtain ⟨h8, hh8⟩ : ∃ b, hasB ((flds c.kd).map ltr) 112 = b := ⟨_, rfl⟩
  have HS8 := Lib.hid fun w => HS.out 112 w
  rw [hh8] at HS8
  have HH8 := Lib.hid (show hB c 8 = h8 from hh8)
  obtain ⟨z8, hz8⟩ : ∃ b, nzF c 8 = b := ⟨_, rfl⟩
  have ZZ8 := Lib.hid hz8
  obtain ⟨h9, hh9⟩ : ∃ b, hasB ((flds c.kd).map ltr) 113 = b := ⟨_, rfl⟩
  have HS9 := Lib.hid fun w => HS.out 113 w
  rw [hh9] at HS9
  have HH9 := Lib.hid (show hB c 9 = h9 from hh9)
  obtain ⟨z9, hz9⟩ : ∃ b, nzF c 9 = b := ⟨_, rfl⟩
  have ZZ9 := Lib.hid hz9
  clear x1 hW1 ok ka kb hfs hh0 hh1 hh2 hh3 hh4 hh5 hh6 hh7 hh8 hh9 hz0 hz1 hz2 hz3 hz4 hz5 hz6 hz7 hz8 hz9
  go_enter Tryz.func24, Tryz.ntmps24
  go_wp2_with (rw [HW1.out])
  refine (FI.out _).mono ?_; rintro e w4 ⟨rfl, rfl⟩
  clear FI
  go_wp2_with fail
  refine (HS0.out _).mono ?_; rintro e w4 ⟨rfl, rfl⟩
  dsimp only
  first | go_values | go_skip | go_guarded | go_step | go_upon | go_back
  refine gv_start 120 rfl rfl ?_
  intro a hz hf hl
  have f1 : a.tmps[1]? = some (.pointer (some ⟨w.heap.size, 0, none⟩)) := hl 1
  have f2 : a.tmps[2]? = some (.bool false) := hl 2
  have f3 : a.tmps[3]? = some (.string fs) := hl 3
  have f16 : a.tmps[16]? = some (.bool h0) := hl 16
  clear hl
  refine gv_do (.bool (!h0)) hz hf rfl (by decide) rfl ?_ (fun a1 hz2 hf2 hd hs => ?_)
  · have ev16 := gv_ev f16; exact gx_not rfl ev16
  replace f1 := (hs 1 (by decide)).trans f1
  replace f2 := (hs 2 (by decide)).trans f2
  replace f3 := (hs 3 (by decide)).trans f3
  clear f16
  have f17 := hd
  clear hz hf hd hs
  have hz := hz2; have hf := hf2; clear hz2 hf2
  refine gv_do (.bool (!h0)) hz hf rfl (by decide) rfl ?_ (fun a2 hz2 hf2 hd hs => ?_)
  · have ev17 := gv_ev f17; exact gx_move rfl ev17
  replace f1 := (hs 1 (by decide)).trans f1
  replace f2 := (hs 2 (by decide)).trans f2
  replace f3 := (hs 3 (by decide)).trans f3
  clear f17
  have f18 := hd
  clear hz hf hd hs
  have hz := hz2; have hf := hf2; clear hz2 hf2
  obtain ⟨G0, hG0⟩ : ∃ W : Bool, (true && ((!h0) == true)) = W := ⟨_, rfl⟩
  refine gv_if (p := true) (q := (!h0)) (want := true) (W := G0) (.pointer (some ⟨w.heap.size, 1, none⟩)) hz hf rfl (by decide) rfl rfl (show a2.tmps[18]? = some (giv true (.bool (!h0))) from f18) hG0 (fun hW => ?_) (fun a3 hz2 hf2 hd hs => ?_)
  · have ev1 := gv_ev f1; unfold execOp; simp only [ev1]; go_simp
  replace f1 := (hs 1 (by decide)).trans f1
  replace f2 := (hs 2 (by decide)).trans f2
  replace f3 := (hs 3 (by decide)).trans f3
  replace f18 := (hs 18 (by decide)).trans f18
  have f19 := hd
  clear hz hf hd hs
  have hz := hz2; have hf := hf2; clear hz2 hf2
  refine gv_if (p := true) (q := (!h0)) (want := true) (W := G0) (.int .u32 c.ac) hz hf rfl (by decide) rfl rfl (show a3.tmps[18]? = some (giv true (.bool (!h0))) from f18) hG0 (fun hW => ?_) (fun a4 hz2 hf2 hd hs => ?_)
  · have ev19 : a3.eval (.tmp 19) = .pointer (some ⟨w.heap.size, 1, none⟩) := (gv_ev f19).trans (by rw [show G0 = true from hW]; rfl); have k := K0.out; unfold execOp; simp only [ev19]; go_simp
  replace f1 := (hs 1 (by decide)).trans f1
  replace f2 := (hs 2 (by decide)).trans f2
  replace f3 := (hs 3 (by decide)).trans f3
  replace f18 := (hs 18 (by decide)).trans f18
  clear f19
  have f20 := hd
  clear hz hf hd hs
  have hz := hz2; have hf := hf2; clear hz2 hf2
  refine gv_if (p := true) (q := (!h0)) (want := true) (W := G0) (.bool z0) hz hf rfl (by decide) rfl rfl (show a4.tmps[18]? = some (giv true (.bool (!h0))) from f18) hG0 (fun hW => ?_) (fun a5 hz2 hf2 hd hs => ?_)
  · have ev20 : a4.eval (.tmp 20) = .int .u32 c.ac := (gv_ev f20).trans (by rw [show G0 = true from hW]; rfl); rw [← show (c.ac != 0) = z0 from ZZ0.out]; unfold execOp; simp only [ev20]; go_simp
  replace f1 := (hs 1 (by decide)).trans f1
  replace f2 := (hs 2 (by decide)).trans f2
  replace f3 := (hs 3 (by decide)).trans f3
  replace f18 := (hs 18 (by decide)).trans f18
  clear f20
  have f21 := hd
  clear hz hf hd hs
  have hz := hz2; have hf := hf2; clear hz2 hf2
  refine gv_do (.bool ((!h0) && z0)) hz hf rfl (by decide) rfl ?_ (fun a6 hz2 hf2 hd hs => ?_)
  · have ev18 := gv_ev f18; exact gx_pickand (Wc := true) rfl ev18 f21 hG0 rfl
  replace f1 := (hs 1 (by decide)).trans f1
  replace f2 := (hs 2 (by decide)).trans f2
  replace f3 := (hs 3 (by decide)).trans f3
  clear f18 f21
  have f22 := hd
  clear hz hf hd hs
  have hz := hz2; have hf := hf2; clear hz2 hf2
  obtain ⟨r22, h_r22⟩ : ∃ b : Bool, ((!h0) && z0) = b := ⟨_, rfl⟩
  rw [h_r22] at f22
  refine gv_do (.bool r22) hz hf rfl (by decide) rfl ?_ (fun a7 hz2 hf2 hd hs => ?_)
  · have ev22 := gv_ev f22; exact gx_move rfl ev22
  replace f1 := (hs 1 (by decide)).trans f1
  replace f2 := (hs 2 (by decide)).trans f2
  replace f3 := (hs 3 (by decide)).trans f3
  clear f22
  have f23 := hd
  clear hz hf hd hs
  have hz := hz2; have hf := hf2; clear hz2 hf2
  obtain ⟨G1, hG1⟩ : ∃ W : Bool, (true && (r22 == false)) = W := ⟨_, rfl⟩
  refine gv_if (p := true) (q := r22) (want := false) (W := G1) (.string fs) hz hf rfl (by decide) rfl rfl (show a7.tmps[23]? = some (giv true (.bool r22)) from f23) hG1 (fun hW => ?_) (fun a8 hz2 hf2 hd hs => ?_)
  · have ev3 := gv_ev f3; exact gx_move rfl ev3
  replace f1 := (hs 1 (by decide)).trans f1
  replace f2 := (hs 2 (by decide)).trans f2
  replace f3 := (hs 3 (by decide)).trans f3
  replace f23 := (hs 23 (by decide)).trans f23
  have f24 := hd
  clear hz hf hd hs
  have hz := hz2; have hf := hf2; clear hz2 hf2
  refine gv_call_if (p := true) (q := r22) (want := false) (W := G1) (.bool h1) 73 #[.string fs, .int .u8 99] hz hf rfl (by decide) rfl rfl (show a8.tmps[23]? = some (giv true (.bool r22)) from f23) hG1 (fun hW => ?_) (HS1.out _) (fun a9 hz2 hf2 hd hs => ?_)
  · have ev24 : a8.eval (.tmp 24) = .string fs := (gv_ev f24).trans (by rw [show G1 = true from hW]; rfl); unfold execOp; go_simp; exact (Array.getElem?_eq_some_iff.1 (f24.trans (by rw [show G1 = true from hW]; rfl))).2
  replace f1 := (hs 1 (by decide)).trans f1
  replace f2 := (hs 2 (by decide)).trans f2
  replace f3 := (hs 3 (by decide)).trans f3
  replace f23 := (hs 23 (by decide)).trans f23
  clear f24
  have f25 := hd
  clear hz hf hd hs
  have hz := hz2; have hf := hf2; clear hz2 hf2
  refine gv_if (p := true) (q := r22) (want := false) (W := G1) (.bool (!h1)) hz hf rfl (by decide) rfl rfl (show a9.tmps[23]? = some (giv true (.bool r22)) from f23) hG1 (fun hW => ?_) (fun a10 hz2 hf2 hd hs => ?_)
  · have ev25 : a9.eval (.tmp 25) = .bool h1 := (gv_ev f25).trans (by rw [show G1 = true from hW]; rfl); exact gx_not rfl ev25
  replace f1 := (hs 1 (by decide)).trans f1
  replace f2 := (hs 2 (by decide)).trans f2
  replace f3 := (hs 3 (by decide)).trans f3
  replace f23 := (hs 23 (by decide)).trans f23
  clear f25
  have f26 := hd
  clear hz hf hd hs
  have hz := hz2; have hf := hf2; clear hz2 hf2
  refine gv_if (p := true) (q := r22) (want := false) (W := G1) (.bool (!h1)) hz hf rfl (by decide) rfl rfl (show a10.tmps[23]? = some (giv true (.bool r22)) from f23) hG1 (fun hW => ?_) (fun a11 hz2 hf2 hd hs => ?_)
  · have ev26 : a10.eval (.tmp 26) = .bool (!h1) := (gv_ev f26).trans (by rw [show G1 = true from hW]; rfl); exact gx_move rfl ev26
  replace f1 := (hs 1 (by decide)).trans f1
  replace f2 := (hs 2 (by decide)).trans f2
  replace f3 := (hs 3 (by decide)).trans f3
  replace f23 := (hs 23 (by decide)).trans f23
  clear f26
  have f27 := hd
  clear hz hf hd hs
  have hz := hz2; have hf := hf2; clear hz2 hf2
  obtain ⟨G2, hG2⟩ : ∃ W : Bool, (G1 && ((!h1) == true)) = W := ⟨_, rfl⟩
  refine gv_if (p := G1) (q := (!h1)) (want := true) (W := G2) (.pointer (some ⟨w.heap.size, 2, none⟩)) hz hf rfl (by decide) rfl rfl f27 hG2 (fun hW => ?_) (fun a12 hz2 hf2 hd hs => ?_)
  · have ev1 := gv_ev f1; unfold execOp; simp only [ev1]; go_simp
  replace f1 := (hs 1 (by decide)).trans f1
  replace f2 := (hs 2 (by decide)).trans f2
  replace f3 := (hs 3 (by decide)).trans f3
  replace f23 := (hs 23 (by decide)).trans f23
  replace f27 := (hs 27 (by decide)).trans f27
  have f28 := hd
  clear hz hf hd hs
  have hz := hz2; have hf := hf2; clear hz2 hf2
  refine gv_if (p := G1) (q := (!h1)) (want := true) (W := G2) (.int .u32 c.ct) hz hf rfl (by decide) rfl rfl f27 hG2 (fun hW => ?_) (fun a13 hz2 hf2 hd hs => ?_)
  · have ev28 : a12.eval (.tmp 28) = .pointer (some ⟨w.heap.size, 2, none⟩) := (gv_ev f28).trans (by rw [show G2 = true from hW]; rfl); have k := K1.out; unfold execOp; simp only [ev28]; go_simp
  replace f1 := (hs 1 (by decide)).trans f1
  replace f2 := (hs 2 (by decide)).trans f2
  replace f3 := (hs 3 (by decide)).trans f3
  replace f23 := (hs 23 (by decide)).trans f23
  replace f27 := (hs 27 (by decide)).trans f27
  clear f28
  have f29 := hd
  clear hz hf hd hs
  have hz := hz2; have hf := hf2; clear hz2 hf2
  refine gv_if (p := G1) (q := (!h1)) (want := true) (W := G2) (.bool z1) hz hf rfl (by decide) rfl rfl f27 hG2 (fun hW => ?_) (fun a14 hz2 hf2 hd hs => ?_)
  · have ev29 : a13.eval (.tmp 29) = .int .u32 c.ct := (gv_ev f29).trans (by rw [show G2 = true from hW]; rfl); rw [← show (c.ct != 0) = z1 from ZZ1.out]; unfold execOp; simp only [ev29]; go_simp
  replace f1 := (hs 1 (by decide)).trans f1
  replace f2 := (hs 2 (by decide)).trans f2
  replace f3 := (hs 3 (by decide)).trans f3
  replace f23 := (hs 23 (by decide)).trans f23
  replace f27 := (hs 27 (by decide)).trans f27
  clear f29
  have f30 := hd
  clear hz hf hd hs
  have hz := hz2; have hf := hf2; clear hz2 hf2
  refine gv_if (p := true) (q := r22) (want := false) (W := G1) (.bool ((!h1) && z1)) hz hf rfl (by decide) rfl rfl (show a14.tmps[23]? = some (giv true (.bool r22)) from f23) hG1 (fun hW => ?_) (fun a15 hz2 hf2 hd hs => ?_)
  · have ev27 : a14.eval (.tmp 27) = .bool (!h1) := (gv_ev f27).trans (by rw [show G1 = true from hW]; rfl); exact gx_pickand (Wc := G1) rfl ev27 f30 hG2 hW
  replace f1 := (hs 1 (by decide)).trans f1
  replace f2 := (hs 2 (by decide)).trans f2
  replace f3 := (hs 3 (by decide)).trans f3
  replace f23 := (hs 23 (by decide)).trans f23
  clear f27 f30
  have f31 := hd
  clear hz hf hd hs
  have hz := hz2; have hf := hf2; clear hz2 hf2
  obtain ⟨r31, h_r31⟩ : ∃ b : Bool, ((!h1) && z1) = b := ⟨_, rfl⟩
  rw [h_r31] at f31
  refine gv_do (.bool (r22 || r31)) hz hf rfl (by decide) rfl ?_ (fun a16 hz2 hf2 hd hs => ?_)
  · have ev23 := gv_ev f23; exact gx_pickor rfl ev23 f31 hG1
  replace f1 := (hs 1 (by decide)).trans f1
  replace f2 := (hs 2 (by decide)).trans f2
  replace f3 := (hs 3 (by decide)).trans f3
  clear f23 f31
  have f32 := hd
  clear hz hf hd hs
  have hz := hz2; have hf := hf2; clear hz2 hf2
  obtain ⟨r32, h_r32⟩ : ∃ b : Bool, (r22 || r31) = b := ⟨_, rfl⟩
  rw [h_r32] at f32
  refine gv_do (.bool r32) hz hf rfl (by decide) rfl ?_ (fun a17 hz2 hf2 hd hs => ?_)
  · have ev32 := gv_ev f32; exact gx_move rfl ev32
  replace f1 := (hs 1 (by decide)).trans f1
  replace f2 := (hs 2 (by decide)).trans f2
  replace f3 := (hs 3 (by decide)).trans f3
  clear f32
  have f33 := hd
  clear hz hf hd hs
  have hz := hz2; have hf := hf2; clear hz2 hf2
  obtain ⟨G3, hG3⟩ : ∃ W : Bool, (true && (r32 == false)) = W := ⟨_, rfl⟩
  refine gv_if (p := true) (q := r32) (want := false) (W := G3) (.string fs) hz hf rfl (by decide) rfl rfl (show a17.tmps[33]? = some (giv true (.bool r32)) from f33) hG3 (fun hW => ?_) (fun a18 hz2 hf2 hd hs => ?_)
  · have ev3 := gv_ev f3; exact gx_move rfl ev3
  replace f1 := (hs 1 (by decide)).trans f1
  replace f2 := (hs 2 (by decide)).trans f2
  replace f3 := (hs 3 (by decide)).trans f3
  replace f33 := (hs 33 (by decide)).trans f33
  have f34 := hd
  clear hz hf hd hs
  have hz := hz2; have hf := hf2; clear hz2 hf2
  refine gv_call_if (p := true) (q := r32) (want := false) (W := G3) (.bool h2) 73 #[.string fs, .int .u8 110] hz hf rfl (by decide) rfl rfl (show a18.tmps[33]? = some (giv true (.bool r32)) from f33) hG3 (fun hW => ?_) (HS2.out _) (fun a19 hz2 hf2 hd hs => ?_)
  · have ev34 : a18.eval (.tmp 34) = .string fs := (gv_ev f34).trans (by rw [show G3 = true from hW]; rfl); unfold execOp; go_simp; exact (Array.getElem?_eq_some_iff.1 (f34.trans (by rw [show G3 = true from hW]; rfl))).2
  replace f1 := (hs 1 (by decide)).trans f1
  replace f2 := (hs 2 (by decide)).trans f2
  replace f3 := (hs 3 (by decide)).trans f3
  replace f33 := (hs 33 (by decide)).trans f33
  clear f34
  have f35 := hd
  clear hz hf hd hs
  have hz := hz2; have hf := hf2; clear hz2 hf2
  refine gv_if (p := true) (q := r32) (want := false) (W := G3) (.bool (!h2)) hz hf rfl (by decide) rfl rfl (show a19.tmps[33]? = some (giv true (.bool r32)) from f33) hG3 (fun hW => ?_) (fun a20 hz2 hf2 hd hs => ?_)
  · have ev35 : a19.eval (.tmp 35) = .bool h2 := (gv_ev f35).trans (by rw [show G3 = true from hW]; rfl); exact gx_not rfl ev35
  replace f1 := (hs 1 (by decide)).trans f1
  replace f2 := (hs 2 (by decide)).trans f2
  replace f3 := (hs 3 (by decide)).trans f3
  replace f33 := (hs 33 (by decide)).trans f33
  clear f35
  have f36 := hd
  clear hz hf hd hs
  have hz := hz2; have hf := hf2; clear hz2 hf2
  refine gv_if (p := true) (q := r32) (want := false) (W := G3) (.bool (!h2)) hz hf rfl (by decide) rfl rfl (show a20.tmps[33]? = some (giv true (.bool r32)) from f33) hG3 (fun hW => ?_) (fun a21 hz2 hf2 hd hs => ?_)
  · have ev36 : a20.eval (.tmp 36) = .bool (!h2) := (gv_ev f36).trans (by rw [show G3 = true from hW]; rfl); exact gx_move rfl ev36
  replace f1 := (hs 1 (by decide)).trans f1
  replace f2 := (hs 2 (by decide)).trans f2
  replace f3 := (hs 3 (by decide)).trans f3
  replace f33 := (hs 33 (by decide)).trans f33
  clear f36
  have f37 := hd
  clear hz hf hd hs
  have hz := hz2; have hf := hf2; clear hz2 hf2
  obtain ⟨G4, hG4⟩ : ∃ W : Bool, (G3 && ((!h2) == true)) = W := ⟨_, rfl⟩
  refine gv_if (p := G3) (q := (!h2)) (want := true) (W := G4) (.pointer (some ⟨w.heap.size, 3, none⟩)) hz hf rfl (by decide) rfl rfl f37 hG4 (fun hW => ?_) (fun a22 hz2 hf2 hd hs => ?_)
  · have ev1 := gv_ev f1; unfold execOp; simp only [ev1]; go_simp
  replace f1 := (hs 1 (by decide)).trans f1
  replace f2 := (hs 2 (by decide)).trans f2
  replace f3 := (hs 3 (by decide)).trans f3
  replace f33 := (hs 33 (by decide)).trans f33
  replace f37 := (hs 37 (by decide)).trans f37
  have f38 := hd
  clear hz hf hd hs
  have hz := hz2; have hf := hf2; clear hz2 hf2
  refine gv_if (p := G3) (q := (!h2)) (want := true) (W := G4) (.int .u64 c.nu) hz hf rfl (by decide) rfl rfl f37 hG4 (fun hW => ?_) (fun a23 hz2 hf2 hd hs => ?_)
  · have ev38 : a22.eval (.tmp 38) = .pointer (some ⟨w.heap.size, 3, none⟩) := (gv_ev f38).trans (by rw [show G4 = true from hW]; rfl); have k := K2.out; unfold execOp; simp only [ev38]; go_simp
  replace f1 := (hs 1 (by decide)).trans f1
  replace f2 := (hs 2 (by decide)).trans f2
  replace f3 := (hs 3 (by decide)).trans f3
  replace f33 := (hs 33 (by decide)).trans f33
  replace f37 := (hs 37 (by decide)).trans f37
  clear f38
  have f39 := hd
  clear hz hf hd hs
  have hz := hz2; have hf := hf2; clear hz2 hf2
  refine gv_if (p := G3) (q := (!h2)) (want := true) (W := G4) (.bool z2) hz hf rfl (by decide) rfl rfl f37 hG4 (fun hW => ?_) (fun a24 hz2 hf2 hd hs => ?_)
  · have ev39 : a23.eval (.tmp 39) = .int .u64 c.nu := (gv_ev f39).trans (by rw [show G4 = true from hW]; rfl); rw [← show (c.nu != 0) = z2 from ZZ2.out]; unfold execOp; simp only [ev39]; go_simp
  replace f1 := (hs 1 (by decide)).trans f1
  replace f2 := (hs 2 (by decide)).trans f2
  replace f3 := (hs 3 (by decide)).trans f3
  replace f33 := (hs 33 (by decide)).trans f33
  replace f37 := (hs 37 (by decide)).trans f37
  clear f39
  have f40 := hd
  clear hz hf hd hs
  have hz := hz2; have hf := hf2; clear hz2 hf2
  refine gv_if (p := true) (q := r32) (want := false) (W := G3) (.bool ((!h2) && z2)) hz hf rfl (by decide) rfl rfl (show a24.tmps[33]? = some (giv true (.bool r32)) from f33) hG3 (fun hW => ?_) (fun a25 hz2 hf2 hd hs => ?_)
  · have ev37 : a24.eval (.tmp 37) = .bool (!h2) := (gv_ev f37).trans (by rw [show G3 = true from hW]; rfl); exact gx_pickand (Wc := G3) rfl ev37 f40 hG4 hW
  replace f1 := (hs 1 (by decide)).trans f1
  replace f2 := (hs 2 (by decide)).trans f2
  replace f3 := (hs 3 (by decide)).trans f3
  replace f33 := (hs 33 (by decide)).trans f33
  clear f37 f40
  have f41 := hd
  clear hz hf hd hs
  have hz := hz2; have hf := hf2; clear hz2 hf2
  obtain ⟨r41, h_r41⟩ : ∃ b : Bool, ((!h2) && z2) = b := ⟨_, rfl⟩
  rw [h_r41] at f41
  refine gv_do (.bool (r32 || r41)) hz hf rfl (by decide) rfl ?_ (fun a26 hz2 hf2 hd hs => ?_)
  · have ev33 := gv_ev f33; exact gx_pickor rfl ev33 f41 hG3
  replace f1 := (hs 1 (by decide)).trans f1
  replace f2 := (hs 2 (by decide)).trans f2
  replace f3 := (hs 3 (by decide)).trans f3
  clear f33 f41
  have f42 := hd
  clear hz hf hd hs
  have hz := hz2; have hf := hf2; clear hz2 hf2
  obtain ⟨r42, h_r42⟩ : ∃ b : Bool, (r32 || r41) = b := ⟨_, rfl⟩
  rw [h_r42] at f42
  refine gv_do (.bool r42) hz hf rfl (by decide) rfl ?_ (fun a27 hz2 hf2 hd hs => ?_)
  · have ev42 := gv_ev f42; exact gx_move rfl ev42
  replace f1 := (hs 1 (by decide)).trans f1
  replace f2 := (hs 2 (by decide)).trans f2
  replace f3 := (hs 3 (by decide)).trans f3
  clear f42
  have f43 := hd
  clear hz hf hd hs
  have hz := hz2; have hf := hf2; clear hz2 hf2
  obtain ⟨G5, hG5⟩ : ∃ W : Bool, (true && (r42 == false)) = W := ⟨_, rfl⟩
  refine gv_if (p := true) (q := r42) (want := false) (W := G5) (.string fs) hz hf rfl (by decide) rfl rfl (show a27.tmps[43]? = some (giv true (.bool r42)) from f43) hG5 (fun hW => ?_) (fun a28 hz2 hf2 hd hs => ?_)
  · have ev3 := gv_ev f3; exact gx_move rfl ev3
  replace f1 := (hs 1 (by decide)).trans f1
  replace f2 := (hs 2 (by decide)).trans f2
  replace f3 := (hs 3 (by decide)).trans f3
  replace f43 := (hs 43 (by decide)).trans f43
  have f44 := hd
  clear hz hf hd hs
  have hz := hz2; have hf := hf2; clear hz2 hf2
  refine gv_call_if (p := true) (q := r42) (want := false) (W := G5) (.bool h3) 73 #[.string fs, .int .u8 109] hz hf rfl (by decide) rfl rfl (show a28.tmps[43]? = some (giv true (.bool r42)) from f43) hG5 (fun hW => ?_) (HS3.out _) (fun a29 hz2 hf2 hd hs => ?_)
  · have ev44 : a28.eval (.tmp 44) = .string fs := (gv_ev f44).trans (by rw [show G5 = true from hW]; rfl); unfold execOp; go_simp; exact (Array.getElem?_eq_some_iff.1 (f44.trans (by rw [show G5 = true from hW]; rfl))).2
  replace f1 := (hs 1 (by decide)).trans f1
  replace f2 := (hs 2 (by decide)).trans f2
  replace f3 := (hs 3 (by decide)).trans f3
  replace f43 := (hs 43 (by decide)).trans f43
  clear f44
  have f45 := hd
  clear hz hf hd hs
  have hz := hz2; have hf := hf2; clear hz2 hf2
  refine gv_if (p := true) (q := r42) (want := false) (W := G5) (.bool (!h3)) hz hf rfl (by decide) rfl rfl (show a29.tmps[43]? = some (giv true (.bool r42)) from f43) hG5 (fun hW => ?_) (fun a30 hz2 hf2 hd hs => ?_)
  · have ev45 : a29.eval (.tmp 45) = .bool h3 := (gv_ev f45).trans (by rw [show G5 = true from hW]; rfl); exact gx_not rfl ev45
  replace f1 := (hs 1 (by decide)).trans f1
  replace f2 := (hs 2 (by decide)).trans f2
  replace f3 := (hs 3 (by decide)).trans f3
  replace f43 := (hs 43 (by decide)).trans f43
  clear f45
  have f46 := hd
  clear hz hf hd hs
  have hz := hz2; have hf := hf2; clear hz2 hf2
  refine gv_if (p := true) (q := r42) (want := false) (W := G5) (.bool (!h3)) hz hf rfl (by decide) rfl rfl (show a30.tmps[43]? = some (giv true (.bool r42)) from f43) hG5 (fun hW => ?_) (fun a31 hz2 hf2 hd hs => ?_)
  · have ev46 : a30.eval (.tmp 46) = .bool (!h3) := (gv_ev f46).trans (by rw [show G5 = true from hW]; rfl); exact gx_move rfl ev46
  replace f1 := (hs 1 (by decide)).trans f1
  replace f2 := (hs 2 (by decide)).trans f2
  replace f3 := (hs 3 (by decide)).trans f3
  replace f43 := (hs 43 (by decide)).trans f43
  clear f46
  have f47 := hd
  clear hz hf hd hs
  have hz := hz2; have hf := hf2; clear hz2 hf2
  obtain ⟨G6, hG6⟩ : ∃ W : Bool, (G5 && ((!h3) == true)) = W := ⟨_, rfl⟩
  refine gv_if (p := G5) (q := (!h3)) (want := true) (W := G6) (.pointer (some ⟨w.heap.size, 4, none⟩)) hz hf rfl (by decide) rfl rfl f47 hG6 (fun hW => ?_) (fun a32 hz2 hf2 hd hs => ?_)
  · have ev1 := gv_ev f1; unfold execOp; simp only [ev1]; go_simp
  replace f1 := (hs 1 (by decide)).trans f1
  replace f2 := (hs 2 (by decide)).trans f2
  replace f3 := (hs 3 (by decide)).trans f3
  replace f43 := (hs 43 (by decide)).trans f43
  replace f47 := (hs 47 (by decide)).trans f47
  have f48 := hd
  clear hz hf hd hs
  have hz := hz2; have hf := hf2; clear hz2 hf2
  refine gv_if (p := G5) (q := (!h3)) (want := true) (W := G6) (.int .i64 c.am) hz hf rfl (by decide) rfl rfl f47 hG6 (fun hW => ?_) (fun a33 hz2 hf2 hd hs => ?_)
  · have ev48 : a32.eval (.tmp 48) = .pointer (some ⟨w.heap.size, 4, none⟩) := (gv_ev f48).trans (by rw [show G6 = true from hW]; rfl); have k := K3.out; unfold execOp; simp only [ev48]; go_simp
  replace f1 := (hs 1 (by decide)).trans f1
  replace f2 := (hs 2 (by decide)).trans f2
  replace f3 := (hs 3 (by decide)).trans f3
  replace f43 := (hs 43 (by decide)).trans f43
  replace f47 := (hs 47 (by decide)).trans f47
  clear f48
  have f49 := hd
  clear hz hf hd hs
  have hz := hz2; have hf := hf2; clear hz2 hf2
  refine gv_if (p := G5) (q := (!h3)) (want := true) (W := G6) (.bool z3) hz hf rfl (by decide) rfl rfl f47 hG6 (fun hW => ?_) (fun a34 hz2 hf2 hd hs => ?_)
  · have ev49 : a33.eval (.tmp 49) = .int .i64 c.am := (gv_ev f49).trans (by rw [show G6 = true from hW]; rfl); rw [← show (c.am != 0) = z3 from ZZ3.out]; unfold execOp; simp only [ev49]; go_simp
  replace f1 := (hs 1 (by decide)).trans f1
  replace f2 := (hs 2 (by decide)).trans f2
  replace f3 := (hs 3 (by decide)).trans f3
  replace f43 := (hs 43 (by decide)).trans f43
  replace f47 := (hs 47 (by decide)).trans f47
  clear f49
  have f50 := hd
  clear hz hf hd hs
  have hz := hz2; have hf := hf2; clear hz2 hf2
  refine gv_if (p := true) (q := r42) (want := false) (W := G5) (.bool ((!h3) && z3)) hz hf rfl (by decide) rfl rfl (show a34.tmps[43]? = some (giv true (.bool r42)) from f43) hG5 (fun hW => ?_) (fun a35 hz2 hf2 hd hs => ?_)
  · have ev47 : a34.eval (.tmp 47) = .bool (!h3) := (gv_ev f47).trans (by rw [show G5 = true from hW]; rfl); exact gx_pickand (Wc := G5) rfl ev47 f50 hG6 hW
  replace f1 := (hs 1 (by decide)).trans f1
  replace f2 := (hs 2 (by decide)).trans f2
  replace f3 := (hs 3 (by decide)).trans f3
  replace f43 := (hs 43 (by decide)).trans f43
  clear f47 f50
  have f51 := hd
  clear hz hf hd hs
  have hz := hz2; have hf := hf2; clear hz2 hf2
  obtain ⟨r51, h_r51⟩ : ∃ b : Bool, ((!h3) && z3) = b := ⟨_, rfl⟩
  rw [h_r51] at f51
  refine gv_do (.bool (r42 || r51)) hz hf rfl (by decide) rfl ?_ (fun a36 hz2 hf2 hd hs => ?_)
  · have ev43 := gv_ev f43; exact gx_pickor rfl ev43 f51 hG5
  replace f1 := (hs 1 (by decide)).trans f1
  replace f2 := (hs 2 (by decide)).trans f2
  replace f3 := (hs 3 (by decide)).trans f3
  clear f43 f51
  have f52 := hd
  clear hz hf hd hs
  have hz := hz2; have hf := hf2; clear hz2 hf2
  obtain ⟨r52, h_r52⟩ : ∃ b : Bool, (r42 || r51) = b := ⟨_, rfl⟩
  rw [h_r52] at f52
  refine gv_do (.bool r52) hz hf rfl (by decide) rfl ?_ (fun a37 hz2 hf2 hd hs => ?_)
  · have ev52 := gv_ev f52; exact gx_move rfl ev52
  replace f1 := (hs 1 (by decide)).trans f1
  replace f2 := (hs 2 (by decide)).trans f2
  replace f3 := (hs 3 (by decide)).trans f3
  clear f52
  have f53 := hd
  clear hz hf hd hs
  have hz := hz2; have hf := hf2; clear hz2 hf2
  obtain ⟨G7, hG7⟩ : ∃ W : Bool, (true && (r52 == false)) = W := ⟨_, rfl⟩
  refine gv_if (p := true) (q := r52) (want := false) (W := G7) (.string fs) hz hf rfl (by decide) rfl rfl (show a37.tmps[53]? = some (giv true (.bool r52)) from f53) hG7 (fun hW => ?_) (fun a38 hz2 hf2 hd hs => ?_)
  · have ev3 := gv_ev f3; exact gx_move rfl ev3
  replace f1 := (hs 1 (by decide)).trans f1
  replace f2 := (hs 2 (by decide)).trans f2
  replace f3 := (hs 3 (by decide)).trans f3
  replace f53 := (hs 53 (by decide)).trans f53
  have f54 := hd
  clear hz hf hd hs
  have hz := hz2; have hf := hf2; clear hz2 hf2
  refine gv_call_if (p := true) (q := r52) (want := false) (W := G7) (.bool h4) 73 #[.string fs, .int .u8 115] hz hf rfl (by decide) rfl rfl (show a38.tmps[53]? = some (giv true (.bool r52)) from f53) hG7 (fun hW => ?_) (HS4.out _) (fun a39 hz2 hf2 hd hs => ?_)
  · have ev54 : a38.eval (.tmp 54) = .string fs := (gv_ev f54).trans (by rw [show G7 = true from hW]; rfl); unfold execOp; go_simp; exact (Array.getElem?_eq_some_iff.1 (f54.trans (by rw [show G7 = true from hW]; rfl))).2
  replace f1 := (hs 1 (by decide)).trans f1
  replace f2 := (hs 2 (by decide)).trans f2
  replace f3 := (hs 3 (by decide)).trans f3
  replace f53 := (hs 53 (by decide)).trans f53
  clear f54
  have f55 := hd
  clear hz hf hd hs
  have hz := hz2; have hf := hf2; clear hz2 hf2
  refine gv_if (p := true) (q := r52) (want := false) (W := G7) (.bool (!h4)) hz hf rfl (by decide) rfl rfl (show a39.tmps[53]? = some (giv true (.bool r52)) from f53) hG7 (fun hW => ?_) (fun a40 hz2 hf2 hd hs => ?_)
  · have ev55 : a39.eval (.tmp 55) = .bool h4 := (gv_ev f55).trans (by rw [show G7 = true from hW]; rfl); exact gx_not rfl ev55
  replace f1 := (hs 1 (by decide)).trans f1
  replace f2 := (hs 2 (by decide)).trans f2
  replace f3 := (hs 3 (by decide)).trans f3
  replace f53 := (hs 53 (by decide)).trans f53
  clear f55
  have f56 := hd
  clear hz hf hd hs
  have hz := hz2; have hf := hf2; clear hz2 hf2
  refine gv_if (p := true) (q := r52) (want := false) (W := G7) (.bool (!h4)) hz hf rfl (by decide) rfl rfl (show a40.tmps[53]? = some (giv true (.bool r52)) from f53) hG7 (fun hW => ?_) (fun a41 hz2 hf2 hd hs => ?_)
  · have ev56 : a40.eval (.tmp 56) = .bool (!h4) := (gv_ev f56).trans (by rw [show G7 = true from hW]; rfl); exact gx_move rfl ev56
  replace f1 := (hs 1 (by decide)).trans f1
  replace f2 := (hs 2 (by decide)).trans f2
  replace f3 := (hs 3 (by decide)).trans f3
  replace f53 := (hs 53 (by decide)).trans f53
  clear f56
  have f57 := hd
  clear hz hf hd hs
  have hz := hz2; have hf := hf2; clear hz2 hf2
  obtain ⟨G8, hG8⟩ : ∃ W : Bool, (G7 && ((!h4) == true)) = W := ⟨_, rfl⟩
  refine gv_if (p := G7) (q := (!h4)) (want := true) (W := G8) (.pointer (some ⟨w.heap.size, 5, none⟩)) hz hf rfl (by decide) rfl rfl f57 hG8 (fun hW => ?_) (fun a42 hz2 hf2 hd hs => ?_)
  · have ev1 := gv_ev f1; unfold execOp; simp only [ev1]; go_simp
  replace f1 := (hs 1 (by decide)).trans f1
  replace f2 := (hs 2 (by decide)).trans f2
  replace f3 := (hs 3 (by decide)).trans f3
  replace f53 := (hs 53 (by decide)).trans f53
  replace f57 := (hs 57 (by decide)).trans f57
  have f58 := hd
  clear hz hf hd hs
  have hz := hz2; have hf := hf2; clear hz2 hf2
  refine gv_if (p := G7) (q := (!h4)) (want := true) (W := G8) (.agg c.sp.cells) hz hf rfl (by decide) rfl rfl f57 hG8 (fun hW => ?_) (fun a43 hz2 hf2 hd hs => ?_)
  · have ev58 : a42.eval (.tmp 58) = .pointer (some ⟨w.heap.size, 5, none⟩) := (gv_ev f58).trans (by rw [show G8 = true from hW]; rfl); exact gx_sp15 rfl ev58 SPR.out OKS.out.len
  replace f1 := (hs 1 (by decide)).trans f1
  replace f2 := (hs 2 (by decide)).trans f2
  replace f3 := (hs 3 (by decide)).trans f3
  replace f53 := (hs 53 (by decide)).trans f53
  replace f57 := (hs 57 (by decide)).trans f57
  clear f58
  have f59 := hd
  clear hz hf hd hs
  have hz := hz2; have hf := hf2; clear hz2 hf2
  refine gv_if (p := G7) (q := (!h4)) (want := true) (W := G8) (.agg zeroSpW.cells) hz hf rfl (by decide) rfl rfl f57 hG8 (fun hW => ?_) (fun a44 hz2 hf2 hd hs => ?_)
  · exact gx_bsp15 rfl
  replace f1 := (hs 1 (by decide)).trans f1
  replace f2 := (hs 2 (by decide)).trans f2
  replace f3 := (hs 3 (by decide)).trans f3
  replace f53 := (hs 53 (by decide)).trans f53
  replace f57 := (hs 57 (by decide)).trans f57
  replace f59 := (hs 59 (by decide)).trans f59
  have f60 := hd
  clear hz hf hd hs
  have hz := hz2; have hf := hf2; clear hz2 hf2
  refine gv_if (p := G7) (q := (!h4)) (want := true) (W := G8) (.bool z4) hz hf rfl (by decide) rfl rfl f57 hG8 (fun hW => ?_) (fun a45 hz2 hf2 hd hs => ?_)
  · have ev59 : a44.eval (.tmp 59) = .agg c.sp.cells := (gv_ev f59).trans (by rw [show G8 = true from hW]; rfl); have ev60 : a44.eval (.tmp 60) = .agg zeroSpW.cells := (gv_ev f60).trans (by rw [show G8 = true from hW]; rfl); exact gx_nsp15 rfl OKS.out ZOK.out ev59 ev60 ZZ4.out
  replace f1 := (hs 1 (by decide)).trans f1
  replace f2 := (hs 2 (by decide)).trans f2
  replace f3 := (hs 3 (by decide)).trans f3
  replace f53 := (hs 53 (by decide)).trans f53
  replace f57 := (hs 57 (by decide)).trans f57
  clear f59 f60
  have f61 := hd
  clear hz hf hd hs
  have hz := hz2; have hf := hf2; clear hz2 hf2
  refine gv_if (p := true) (q := r52) (want := false) (W := G7) (.bool ((!h4) && z4)) hz hf rfl (by decide) rfl rfl (show a45.tmps[53]? = some (giv true (.bool r52)) from f53) hG7 (fun hW => ?_) (fun a46 hz2 hf2 hd hs => ?_)
  · have ev57 : a45.eval (.tmp 57) = .bool (!h4) := (gv_ev f57).trans (by rw [show G7 = true from hW]; rfl); exact gx_pickand (Wc := G7) rfl ev57 f61 hG8 hW
  replace f1 := (hs 1 (by decide)).trans f1
  replace f2 := (hs 2 (by decide)).trans f2
  replace f3 := (hs 3 (by decide)).trans f3
  replace f53 := (hs 53 (by decide)).trans f53
  clear f57 f61
  have f62 := hd
  clear hz hf hd hs
  have hz := hz2; have hf := hf2; clear hz2 hf2
  obtain ⟨r62, h_r62⟩ : ∃ b : Bool, ((!h4) && z4) = b := ⟨_, rfl⟩
  rw [h_r62] at f62
  refine gv_do (.bool (r52 || r62)) hz hf rfl (by decide) rfl ?_ (fun a47 hz2 hf2 hd hs => ?_)
  · have ev53 := gv_ev f53; exact gx_pickor rfl ev53 f62 hG7
  replace f1 := (hs 1 (by decide)).trans f1
  replace f2 := (hs 2 (by decide)).trans f2
  replace f3 := (hs 3 (by decide)).trans f3
  clear f53 f62
  have f63 := hd
  clear hz hf hd hs
  have hz := hz2; have hf := hf2; clear hz2 hf2
  obtain ⟨r63, h_r63⟩ : ∃ b : Bool, (r52 || r62) = b := ⟨_, rfl⟩
  rw [h_r63] at f63
  refine gv_do (.bool r63) hz hf rfl (by decide) rfl ?_ (fun a48 hz2 hf2 hd hs => ?_)
  · have ev63 := gv_ev f63; exact gx_move rfl ev63
  replace f1 := (hs 1 (by decide)).trans f1
  replace f2 := (hs 2 (by decide)).trans f2
  replace f3 := (hs 3 (by decide)).trans f3
  clear f63
  have f64 := hd
  clear hz hf hd hs
  have hz := hz2; have hf := hf2; clear hz2 hf2
  obtain ⟨G9, hG9⟩ : ∃ W : Bool, (true && (r63 == false)) = W := ⟨_, rfl⟩
  refine gv_if (p := true) (q := r63) (want := false) (W := G9) (.string fs) hz hf rfl (by decide) rfl rfl (show a48.tmps[64]? = some (giv true (.bool r63)) from f64) hG9 (fun hW => ?_) (fun a49 hz2 hf2 hd hs => ?_)
  · have ev3 := gv_ev f3; exact gx_move rfl ev3
  replace f1 := (hs 1 (by decide)).trans f1
  replace f2 := (hs 2 (by decide)).trans f2
  replace f3 := (hs 3 (by decide)).trans f3
  replace f64 := (hs 64 (by decide)).trans f64
  have f65 := hd
  clear hz hf hd hs
  have hz := hz2; have hf := hf2; clear hz2 hf2
  refine gv_call_if (p := true) (q := r63) (want := false) (W := G9) (.bool h5) 73 #[.string fs, .int .u8 111] hz hf rfl (by decide) rfl rfl (show a49.tmps[64]? = some (giv true (.bool r63)) from f64) hG9 (fun hW => ?_) (HS5.out _) (fun a50 hz2 hf2 hd hs => ?_)
  · have ev65 : a49.eval (.tmp 65) = .string fs := (gv_ev f65).trans (by rw [show G9 = true from hW]; rfl); unfold execOp; go_simp; exact (Array.getElem?_eq_some_iff.1 (f65.trans (by rw [show G9 = true from hW]; rfl))).2
  replace f1 := (hs 1 (by decide)).trans f1
  replace f2 := (hs 2 (by decide)).trans f2
  replace f3 := (hs 3 (by decide)).trans f3
  replace f64 := (hs 64 (by decide)).trans f64
  clear f65
  have f66 := hd
  clear hz hf hd hs
  have hz := hz2; have hf := hf2; clear hz2 hf2
  refine gv_if (p := true) (q := r63) (want := false) (W := G9) (.bool (!h5)) hz hf rfl (by decide) rfl rfl (show a50.tmps[64]? = some (giv true (.bool r63)) from f64) hG9 (fun hW => ?_) (fun a51 hz2 hf2 hd hs => ?_)
  · have ev66 : a50.eval (.tmp 66) = .bool h5 := (gv_ev f66).trans (by rw [show G9 = true from hW]; rfl); exact gx_not rfl ev66
  replace f1 := (hs 1 (by decide)).trans f1
  replace f2 := (hs 2 (by decide)).trans f2
  replace f3 := (hs 3 (by decide)).trans f3
  replace f64 := (hs 64 (by decide)).trans f64
  clear f66
  have f67 := hd
  clear hz hf hd hs
  have hz := hz2; have hf := hf2; clear hz2 hf2
  refine gv_if (p := true) (q := r63) (want := false) (W := G9) (.bool (!h5)) hz hf rfl (by decide) rfl rfl (show a51.tmps[64]? = some (giv true (.bool r63)) from f64) hG9 (fun hW => ?_) (fun a52 hz2 hf2 hd hs => ?_)
  · have ev67 : a51.eval (.tmp 67) = .bool (!h5) := (gv_ev f67).trans (by rw [show G9 = true from hW]; rfl); exact gx_move rfl ev67
  replace f1 := (hs 1 (by decide)).trans f1
  replace f2 := (hs 2 (by decide)).trans f2
  replace f3 := (hs 3 (by decide)).trans f3
  replace f64 := (hs 64 (by decide)).trans f64
  clear f67
  have f68 := hd
  clear hz hf hd hs
  have hz := hz2; have hf := hf2; clear hz2 hf2
  obtain ⟨G10, hG10⟩ : ∃ W : Bool, (G9 && ((!h5) == true)) = W := ⟨_, rfl⟩
  refine gv_if (p := G9) (q := (!h5)) (want := true) (W := G10) (.pointer (some ⟨w.heap.size, 30, none⟩)) hz hf rfl (by decide) rfl rfl f68 hG10 (fun hW => ?_) (fun a53 hz2 hf2 hd hs => ?_)
  · have ev1 := gv_ev f1; unfold execOp; simp only [ev1]; go_simp
  replace f1 := (hs 1 (by decide)).trans f1
  replace f2 := (hs 2 (by decide)).trans f2
  replace f3 := (hs 3 (by decide)).trans f3
  replace f64 := (hs 64 (by decide)).trans f64
  replace f68 := (hs 68 (by decide)).trans f68
  have f69 := hd
  clear hz hf hd hs
  have hz := hz2; have hf := hf2; clear hz2 hf2
  refine gv_if (p := G9) (q := (!h5)) (want := true) (W := G10) (.bool z5) hz hf rfl (by decide) rfl rfl f68 hG10 (fun hW => ?_) (fun a54 hz2 hf2 hd hs => ?_)
  · have ev69 : a53.eval (.tmp 69) = .pointer (some ⟨w.heap.size, 30, none⟩) := (gv_ev f69).trans (by rw [show G10 = true from hW]; rfl); have k := K5.out; rw [show c.on = z5 from ZZ5.out] at k; unfold execOp; simp only [ev69]; go_simp
  replace f1 := (hs 1 (by decide)).trans f1
  replace f2 := (hs 2 (by decide)).trans f2
  replace f3 := (hs 3 (by decide)).trans f3
  replace f64 := (hs 64 (by decide)).trans f64
  replace f68 := (hs 68 (by decide)).trans f68
  clear f69
  have f70 := hd
  clear hz hf hd hs
  have hz := hz2; have hf := hf2; clear hz2 hf2
  refine gv_if (p := true) (q := r63) (want := false) (W := G9) (.bool ((!h5) && z5)) hz hf rfl (by decide) rfl rfl (show a54.tmps[64]? = some (giv true (.bool r63)) from f64) hG9 (fun hW => ?_) (fun a55 hz2 hf2 hd hs => ?_)
  · have ev68 : a54.eval (.tmp 68) = .bool (!h5) := (gv_ev f68).trans (by rw [show G9 = true from hW]; rfl); exact gx_pickand (Wc := G9) rfl ev68 f70 hG10 hW
  replace f1 := (hs 1 (by decide)).trans f1
  replace f2 := (hs 2 (by decide)).trans f2
  replace f3 := (hs 3 (by decide)).trans f3
  replace f64 := (hs 64 (by decide)).trans f64
  clear f68 f70
  have f71 := hd
  clear hz hf hd hs
  have hz := hz2; have hf := hf2; clear hz2 hf2
  obtain ⟨r71, h_r71⟩ : ∃ b : Bool, ((!h5) && z5) = b := ⟨_, rfl⟩
  rw [h_r71] at f71
  refine gv_do (.bool (r63 || r71)) hz hf rfl (by decide) rfl ?_ (fun a56 hz2 hf2 hd hs => ?_)
  · have ev64 := gv_ev f64; exact gx_pickor rfl ev64 f71 hG9
  replace f1 := (hs 1 (by decide)).trans f1
  replace f2 := (hs 2 (by decide)).trans f2
  replace f3 := (hs 3 (by decide)).trans f3
  clear f64 f71
  have f72 := hd
  clear hz hf hd hs
  have hz := hz2; have hf := hf2; clear hz2 hf2
  obtain ⟨r72, h_r72⟩ : ∃ b : Bool, (r63 || r71) = b := ⟨_, rfl⟩
  rw [h_r72] at f72
  refine gv_do (.bool r72) hz hf rfl (by decide) rfl ?_ (fun a57 hz2 hf2 hd hs => ?_)
  · have ev72 := gv_ev f72; exact gx_move rfl ev72
  replace f1 := (hs 1 (by decide)).trans f1
  replace f2 := (hs 2 (by decide)).trans f2
  replace f3 := (hs 3 (by decide)).trans f3
  clear f72
  have f73 := hd
  clear hz hf hd hs
  have hz := hz2; have hf := hf2; clear hz2 hf2
  obtain ⟨G11, hG11⟩ : ∃ W : Bool, (true && (r72 == false)) = W := ⟨_, rfl⟩
  refine gv_if (p := true) (q := r72) (want := false) (W := G11) (.string fs) hz hf rfl (by decide) rfl rfl (show a57.tmps[73]? = some (giv true (.bool r72)) from f73) hG11 (fun hW => ?_) (fun a58 hz2 hf2 hd hs => ?_)
  · have ev3 := gv_ev f3; exact gx_move rfl ev3
  replace f1 := (hs 1 (by decide)).trans f1
  replace f2 := (hs 2 (by decide)).trans f2
  replace f3 := (hs 3 (by decide)).trans f3
  replace f73 := (hs 73 (by decide)).trans f73
  have f74 := hd
  clear hz hf hd hs
  have hz := hz2; have hf := hf2; clear hz2 hf2
  refine gv_call_if (p := true) (q := r72) (want := false) (W := G11) (.bool h6) 73 #[.string fs, .int .u8 98] hz hf rfl (by decide) rfl rfl (show a58.tmps[73]? = some (giv true (.bool r72)) from f73) hG11 (fun hW => ?_) (HS6.out _) (fun a59 hz2 hf2 hd hs => ?_)
  · have ev74 : a58.eval (.tmp 74) = .string fs := (gv_ev f74).trans (by rw [show G11 = true from hW]; rfl); unfold execOp; go_simp; exact (Array.getElem?_eq_some_iff.1 (f74.trans (by rw [show G11 = true from hW]; rfl))).2
  replace f1 := (hs 1 (by decide)).trans f1
  replace f2 := (hs 2 (by decide)).trans f2
  replace f3 := (hs 3 (by decide)).trans f3
  replace f73 := (hs 73 (by decide)).trans f73
  clear f74
  have f75 := hd
  clear hz hf hd hs
  have hz := hz2; have hf := hf2; clear hz2 hf2
  refine gv_if (p := true) (q := r72) (want := false) (W := G11) (.bool (!h6)) hz hf rfl (by decide) rfl rfl (show a59.tmps[73]? = some (giv true (.bool r72)) from f73) hG11 (fun hW => ?_) (fun a60 hz2 hf2 hd hs => ?_)
  · have ev75 : a59.eval (.tmp 75) = .bool h6 := (gv_ev f75).trans (by rw [show G11 = true from hW]; rfl); exact gx_not rfl ev75
  replace f1 := (hs 1 (by decide)).trans f1
  replace f2 := (hs 2 (by decide)).trans f2
  replace f3 := (hs 3 (by decide)).trans f3
  replace f73 := (hs 73 (by decide)).trans f73
  clear f75
  have f76 := hd
  clear hz hf hd hs
  have hz := hz2; have hf := hf2; clear hz2 hf2
  refine gv_if (p := true) (q := r72) (want := false) (W := G11) (.bool (!h6)) hz hf rfl (by decide) rfl rfl (show a60.tmps[73]? = some (giv true (.bool r72)) from f73) hG11 (fun hW => ?_) (fun a61 hz2 hf2 hd hs => ?_)
  · have ev76 : a60.eval (.tmp 76) = .bool (!h6) := (gv_ev f76).trans (by rw [show G11 = true from hW]; rfl); exact gx_move rfl ev76
  replace f1 := (hs 1 (by decide)).trans f1
  replace f2 := (hs 2 (by decide)).trans f2
  replace f3 := (hs 3 (by decide)).trans f3
  replace f73 := (hs 73 (by decide)).trans f73
  clear f76
  have f77 := hd
  clear hz hf hd hs
  have hz := hz2; have hf := hf2; clear hz2 hf2
  obtain ⟨G12, hG12⟩ : ∃ W : Bool, (G11 && ((!h6) == true)) = W := ⟨_, rfl⟩
  refine gv_if (p := G11) (q := (!h6)) (want := true) (W := G12) (.pointer (some ⟨w.heap.size, 31, none⟩)) hz hf rfl (by decide) rfl rfl f77 hG12 (fun hW => ?_) (fun a62 hz2 hf2 hd hs => ?_)
  · have ev1 := gv_ev f1; unfold execOp; simp only [ev1]; go_simp
  replace f1 := (hs 1 (by decide)).trans f1
  replace f2 := (hs 2 (by decide)).trans f2
  replace f3 := (hs 3 (by decide)).trans f3
  replace f73 := (hs 73 (by decide)).trans f73
  replace f77 := (hs 77 (by decide)).trans f77
  have f78 := hd
  clear hz hf hd hs
  have hz := hz2; have hf := hf2; clear hz2 hf2
  refine gv_if (p := G11) (q := (!h6)) (want := true) (W := G12) (.bool z6) hz hf rfl (by decide) rfl rfl f77 hG12 (fun hW => ?_) (fun a63 hz2 hf2 hd hs => ?_)
  · have ev78 : a62.eval (.tmp 78) = .pointer (some ⟨w.heap.size, 31, none⟩) := (gv_ev f78).trans (by rw [show G12 = true from hW]; rfl); have k := K6.out; rw [show c.bu = z6 from ZZ6.out] at k; unfold execOp; simp only [ev78]; go_simp
  replace f1 := (hs 1 (by decide)).trans f1
  replace f2 := (hs 2 (by decide)).trans f2
  replace f3 := (hs 3 (by decide)).trans f3
  replace f73 := (hs 73 (by decide)).trans f73
  replace f77 := (hs 77 (by decide)).trans f77
  clear f78
  have f79 := hd
  clear hz hf hd hs
  have hz := hz2; have hf := hf2; clear hz2 hf2
  refine gv_if (p := true) (q := r72) (want := false) (W := G11) (.bool ((!h6) && z6)) hz hf rfl (by decide) rfl rfl (show a63.tmps[73]? = some (giv true (.bool r72)) from f73) hG11 (fun hW => ?_) (fun a64 hz2 hf2 hd hs => ?_)
  · have ev77 : a63.eval (.tmp 77) = .bool (!h6) := (gv_ev f77).trans (by rw [show G11 = true from hW]; rfl); exact gx_pickand (Wc := G11) rfl ev77 f79 hG12 hW
  replace f1 := (hs 1 (by decide)).trans f1
  replace f2 := (hs 2 (by decide)).trans f2
  replace f3 := (hs 3 (by decide)).trans f3
  replace f73 := (hs 73 (by decide)).trans f73
  clear f77 f79
  have f80 := hd
  clear hz hf hd hs
  have hz := hz2; have hf := hf2; clear hz2 hf2
  obtain ⟨r80, h_r80⟩ : ∃ b : Bool, ((!h6) && z6) = b := ⟨_, rfl⟩
  rw [h_r80] at f80
  refine gv_do (.bool (r72 || r80)) hz hf rfl (by decide) rfl ?_ (fun a65 hz2 hf2 hd hs => ?_)
  · have ev73 := gv_ev f73; exact gx_pickor rfl ev73 f80 hG11
  replace f1 := (hs 1 (by decide)).trans f1
  replace f2 := (hs 2 (by decide)).trans f2
  replace f3 := (hs 3 (by decide)).trans f3
  clear f73 f80
  have f81 := hd
  clear hz hf hd hs
  have hz := hz2; have hf := hf2; clear hz2 hf2
  obtain ⟨r81, h_r81⟩ : ∃ b : Bool, (r72 || r80) = b := ⟨_, rfl⟩
  rw [h_r81] at f81
  refine gv_do (.bool r81) hz hf rfl (by decide) rfl ?_ (fun a66 hz2 hf2 hd hs => ?_)
  · have ev81 := gv_ev f81; exact gx_move rfl ev81
  replace f1 := (hs 1 (by decide)).trans f1
  replace f2 := (hs 2 (by decide)).trans f2
  replace f3 := (hs 3 (by decide)).trans f3
  clear f81
  have f82 := hd
  clear hz hf hd hs
  have hz := hz2; have hf := hf2; clear hz2 hf2
  obtain ⟨G13, hG13⟩ : ∃ W : Bool, (true && (r81 == false)) = W := ⟨_, rfl⟩
  refine gv_if (p := true) (q := r81) (want := false) (W := G13) (.string fs) hz hf rfl (by decide) rfl rfl (show a66.tmps[82]? = some (giv true (.bool r81)) from f82) hG13 (fun hW => ?_) (fun a67 hz2 hf2 hd hs => ?_)
  · have ev3 := gv_ev f3; exact gx_move rfl ev3
  replace f1 := (hs 1 (by decide)).trans f1
  replace f2 := (hs 2 (by decide)).trans f2
  replace f3 := (hs 3 (by decide)).trans f3
  replace f82 := (hs 82 (by decide)).trans f82
  have f83 := hd
  clear hz hf hd hs
  have hz := hz2; have hf := hf2; clear hz2 hf2
  refine gv_call_if (p := true) (q := r81) (want := false) (W := G13) (.bool h7) 73 #[.string fs, .int .u8 107] hz hf rfl (by decide) rfl rfl (show a67.tmps[82]? = some (giv true (.bool r81)) from f82) hG13 (fun hW => ?_) (HS7.out _) (fun a68 hz2 hf2 hd hs => ?_)
  · have ev83 : a67.eval (.tmp 83) = .string fs := (gv_ev f83).trans (by rw [show G13 = true from hW]; rfl); unfold execOp; go_simp; exact (Array.getElem?_eq_some_iff.1 (f83.trans (by rw [show G13 = true from hW]; rfl))).2
  replace f1 := (hs 1 (by decide)).trans f1
  replace f2 := (hs 2 (by decide)).trans f2
  replace f3 := (hs 3 (by decide)).trans f3
  replace f82 := (hs 82 (by decide)).trans f82
  clear f83
  have f84 := hd
  clear hz hf hd hs
  have hz := hz2; have hf := hf2; clear hz2 hf2
  refine gv_if (p := true) (q := r81) (want := false) (W := G13) (.bool (!h7)) hz hf rfl (by decide) rfl rfl (show a68.tmps[82]? = some (giv true (.bool r81)) from f82) hG13 (fun hW => ?_) (fun a69 hz2 hf2 hd hs => ?_)
  · have ev84 : a68.eval (.tmp 84) = .bool h7 := (gv_ev f84).trans (by rw [show G13 = true from hW]; rfl); exact gx_not rfl ev84
  replace f1 := (hs 1 (by decide)).trans f1
  replace f2 := (hs 2 (by decide)).trans f2
  replace f3 := (hs 3 (by decide)).trans f3
  replace f82 := (hs 82 (by decide)).trans f82
  clear f84
  have f85 := hd
  clear hz hf hd hs
  have hz := hz2; have hf := hf2; clear hz2 hf2
  refine gv_if (p := true) (q := r81) (want := false) (W := G13) (.bool (!h7)) hz hf rfl (by decide) rfl rfl (show a69.tmps[82]? = some (giv true (.bool r81)) from f82) hG13 (fun hW => ?_) (fun a70 hz2 hf2 hd hs => ?_)
  · have ev85 : a69.eval (.tmp 85) = .bool (!h7) := (gv_ev f85).trans (by rw [show G13 = true from hW]; rfl); exact gx_move rfl ev85
  replace f1 := (hs 1 (by decide)).trans f1
  replace f2 := (hs 2 (by decide)).trans f2
  replace f3 := (hs 3 (by decide)).trans f3
  replace f82 := (hs 82 (by decide)).trans f82
  clear f85
  have f86 := hd
  clear hz hf hd hs
  have hz := hz2; have hf := hf2; clear hz2 hf2
  obtain ⟨G14, hG14⟩ : ∃ W : Bool, (G13 && ((!h7) == true)) = W := ⟨_, rfl⟩
  refine gv_if (p := G13) (q := (!h7)) (want := true) (W := G14) (.pointer (some ⟨w.heap.size, 32, none⟩)) hz hf rfl (by decide) rfl rfl f86 hG14 (fun hW => ?_) (fun a71 hz2 hf2 hd hs => ?_)
  · have ev1 := gv_ev f1; unfold execOp; simp only [ev1]; go_simp
  replace f1 := (hs 1 (by decide)).trans f1
  replace f2 := (hs 2 (by decide)).trans f2
  replace f3 := (hs 3 (by decide)).trans f3
  replace f82 := (hs 82 (by decide)).trans f82
  replace f86 := (hs 86 (by decide)).trans f86
  have f87 := hd
  clear hz hf hd hs
  have hz := hz2; have hf := hf2; clear hz2 hf2
  refine gv_if (p := G13) (q := (!h7)) (want := true) (W := G14) (.int .u8 c.as') hz hf rfl (by decide) rfl rfl f86 hG14 (fun hW => ?_) (fun a72 hz2 hf2 hd hs => ?_)
  · have ev87 : a71.eval (.tmp 87) = .pointer (some ⟨w.heap.size, 32, none⟩) := (gv_ev f87).trans (by rw [show G14 = true from hW]; rfl); have k := K7.out; unfold execOp; simp only [ev87]; go_simp
  replace f1 := (hs 1 (by decide)).trans f1
  replace f2 := (hs 2 (by decide)).trans f2
  replace f3 := (hs 3 (by decide)).trans f3
  replace f82 := (hs 82 (by decide)).trans f82
  replace f86 := (hs 86 (by decide)).trans f86
  clear f87
  have f88 := hd
  clear hz hf hd hs
  have hz := hz2; have hf := hf2; clear hz2 hf2
  refine gv_if (p := G13) (q := (!h7)) (want := true) (W := G14) (.bool z7) hz hf rfl (by decide) rfl rfl f86 hG14 (fun hW => ?_) (fun a73 hz2 hf2 hd hs => ?_)
  · have ev88 : a72.eval (.tmp 88) = .int .u8 c.as' := (gv_ev f88).trans (by rw [show G14 = true from hW]; rfl); rw [← show (c.as' != 0) = z7 from ZZ7.out]; unfold execOp; simp only [ev88]; go_simp
  replace f1 := (hs 1 (by decide)).trans f1
  replace f2 := (hs 2 (by decide)).trans f2
  replace f3 := (hs 3 (by decide)).trans f3
  replace f82 := (hs 82 (by decide)).trans f82
  replace f86 := (hs 86 (by decide)).trans f86
  clear f88
  have f89 := hd
  clear hz hf hd hs
  have hz := hz2; have hf := hf2; clear hz2 hf2
  refine gv_if (p := true) (q := r81) (want := false) (W := G13) (.bool ((!h7) && z7)) hz hf rfl (by decide) rfl rfl (show a73.tmps[82]? = some (giv true (.bool r81)) from f82) hG13 (fun hW => ?_) (fun a74 hz2 hf2 hd hs => ?_)
  · have ev86 : a73.eval (.tmp 86) = .bool (!h7) := (gv_ev f86).trans (by rw [show G13 = true from hW]; rfl); exact gx_pickand (Wc := G13) rfl ev86 f89 hG14 hW
  replace f1 := (hs 1 (by decide)).trans f1
  replace f2 := (hs 2 (by decide)).trans f2
  replace f3 := (hs 3 (by decide)).trans f3
  replace f82 := (hs 82 (by decide)).trans f82
  clear f86 f89
  have f90 := hd
  clear hz hf hd hs
  have hz := hz2; have hf := hf2; clear hz2 hf2
  obtain ⟨r90, h_r90⟩ : ∃ b : Bool, ((!h7) && z7) = b := ⟨_, rfl⟩
  rw [h_r90] at f90
  refine gv_do (.bool (r81 || r90)) hz hf rfl (by decide) rfl ?_ (fun a75 hz2 hf2 hd hs => ?_)
  · have ev82 := gv_ev f82; exact gx_pickor rfl ev82 f90 hG13
  replace f1 := (hs 1 (by decide)).trans f1
  replace f2 := (hs 2 (by decide)).trans f2
  replace f3 := (hs 3 (by decide)).trans f3
  clear f82 f90
  have f91 := hd
  clear hz hf hd hs
  have hz := hz2; have hf := hf2; clear hz2 hf2
  obtain ⟨r91, h_r91⟩ : ∃ b : Bool, (r81 || r90) = b := ⟨_, rfl⟩
  rw [h_r91] at f91
  refine gv_do (.bool r91) hz hf rfl (by decide) rfl ?_ (fun a76 hz2 hf2 hd hs => ?_)
  · have ev91 := gv_ev f91; exact gx_move rfl ev91
  replace f1 := (hs 1 (by decide)).trans f1
  replace f2 := (hs 2 (by decide)).trans f2
  replace f3 := (hs 3 (by decide)).trans f3
  clear f91
  have f92 := hd
  clear hz hf hd hs
  have hz := hz2; have hf := hf2; clear hz2 hf2
  obtain ⟨G15, hG15⟩ : ∃ W : Bool, (true && (r91 == false)) = W := ⟨_, rfl⟩
  refine gv_if (p := true) (q := r91) (want := false) (W := G15) (.string fs) hz hf rfl (by decide) rfl rfl (show a76.tmps[92]? = some (giv true (.bool r91)) from f92) hG15 (fun hW => ?_) (fun a77 hz2 hf2 hd hs => ?_)
  · have ev3 := gv_ev f3; exact gx_move rfl ev3
  replace f1 := (hs 1 (by decide)).trans f1
  replace f2 := (hs 2 (by decide)).trans f2
  replace f3 := (hs 3 (by decide)).trans f3
  replace f92 := (hs 92 (by decide)).trans f92
  have f93 := hd
  clear hz hf hd hs
  have hz := hz2; have hf := hf2; clear hz2 hf2
  refine gv_call_if (p := true) (q := r91) (want := false) (W := G15) (.bool h8) 73 #[.string fs, .int .u8 112] hz hf rfl (by decide) rfl rfl (show a77.tmps[92]? = some (giv true (.bool r91)) from f92) hG15 (fun hW => ?_) (HS8.out _) (fun a78 hz2 hf2 hd hs => ?_)
  · have ev93 : a77.eval (.tmp 93) = .string fs := (gv_ev f93).trans (by rw [show G15 = true from hW]; rfl); unfold execOp; go_simp; exact (Array.getElem?_eq_some_iff.1 (f93.trans (by rw [show G15 = true from hW]; rfl))).2
  replace f1 := (hs 1 (by decide)).trans f1
  replace f2 := (hs 2 (by decide)).trans f2
  replace f3 := (hs 3 (by decide)).trans f3
  replace f92 := (hs 92 (by decide)).trans f92
  clear f93
  have f94 := hd
  clear hz hf hd hs
  have hz := hz2; have hf := hf2; clear hz2 hf2
  refine gv_if (p := true) (q := r91) (want := false) (W := G15) (.bool (!h8)) hz hf rfl (by decide) rfl rfl (show a78.tmps[92]? = some (giv true (.bool r91)) from f92) hG15 (fun hW => ?_) (fun a79 hz2 hf2 hd hs => ?_)
  · have ev94 : a78.eval (.tmp 94) = .bool h8 := (gv_ev f94).trans (by rw [show G15 = true from hW]; rfl); exact gx_not rfl ev94
  replace f1 := (hs 1 (by decide)).trans f1
  replace f2 := (hs 2 (by decide)).trans f2
  replace f3 := (hs 3 (by decide)).trans f3
  replace f92 := (hs 92 (by decide)).trans f92
  clear f94
  have f95 := hd
  clear hz hf hd hs
  have hz := hz2; have hf := hf2; clear hz2 hf2
  refine gv_if (p := true) (q := r91) (want := false) (W := G15) (.bool (!h8)) hz hf rfl (by decide) rfl rfl (show a79.tmps[92]? = some (giv true (.bool r91)) from f92) hG15 (fun hW => ?_) (fun a80 hz2 hf2 hd hs => ?_)
  · have ev95 : a79.eval (.tmp 95) = .bool (!h8) := (gv_ev f95).trans (by rw [show G15 = true from hW]; rfl); exact gx_move rfl ev95
  replace f1 := (hs 1 (by decide)).trans f1
  replace f2 := (hs 2 (by decide)).trans f2
  replace f3 := (hs 3 (by decide)).trans f3
  replace f92 := (hs 92 (by decide)).trans f92
  clear f95
  have f96 := hd
  clear hz hf hd hs
  have hz := hz2; have hf := hf2; clear hz2 hf2
  obtain ⟨G16, hG16⟩ : ∃ W : Bool, (G15 && ((!h8) == true)) = W := ⟨_, rfl⟩
  refine gv_if (p := G15) (q := (!h8)) (want := true) (W := G16) (.pointer (some ⟨w.heap.size, 33, none⟩)) hz hf rfl (by decide) rfl rfl f96 hG16 (fun hW => ?_) (fun a81 hz2 hf2 hd hs => ?_)
  · have ev1 := gv_ev f1; unfold execOp; simp only [ev1]; go_simp
  replace f1 := (hs 1 (by decide)).trans f1
  replace f2 := (hs 2 (by decide)).trans f2
  replace f3 := (hs 3 (by decide)).trans f3
  replace f92 := (hs 92 (by decide)).trans f92
  replace f96 := (hs 96 (by decide)).trans f96
  have f97 := hd
  clear hz hf hd hs
  have hz := hz2; have hf := hf2; clear hz2 hf2
  refine gv_if (p := G15) (q := (!h8)) (want := true) (W := G16) (.int .i64 c.px) hz hf rfl (by decide) rfl rfl f96 hG16 (fun hW => ?_) (fun a82 hz2 hf2 hd hs => ?_)
  · have ev97 : a81.eval (.tmp 97) = .pointer (some ⟨w.heap.size, 33, none⟩) := (gv_ev f97).trans (by rw [show G16 = true from hW]; rfl); have k := K8.out; unfold execOp; simp only [ev97]; go_simp
  replace f1 := (hs 1 (by decide)).trans f1
  replace f2 := (hs 2 (by decide)).trans f2
  replace f3 := (hs 3 (by decide)).trans f3
  replace f92 := (hs 92 (by decide)).trans f92
  replace f96 := (hs 96 (by decide)).trans f96
  clear f97
  have f98 := hd
  clear hz hf hd hs
  have hz := hz2; have hf := hf2; clear hz2 hf2
  refine gv_if (p := G15) (q := (!h8)) (want := true) (W := G16) (.bool z8) hz hf rfl (by decide) rfl rfl f96 hG16 (fun hW => ?_) (fun a83 hz2 hf2 hd hs => ?_)
  · have ev98 : a82.eval (.tmp 98) = .int .i64 c.px := (gv_ev f98).trans (by rw [show G16 = true from hW]; rfl); rw [← show (c.px != 0) = z8 from ZZ8.out]; unfold execOp; simp only [ev98]; go_simp
  replace f1 := (hs 1 (by decide)).trans f1
  replace f2 := (hs 2 (by decide)).trans f2
  replace f3 := (hs 3 (by decide)).trans f3
  replace f92 := (hs 92 (by decide)).trans f92
  replace f96 := (hs 96 (by decide)).trans f96
  clear f98
  have f99 := hd
  clear hz hf hd hs
  have hz := hz2; have hf := hf2; clear hz2 hf2
  refine gv_if (p := true) (q := r91) (want := false) (W := G15) (.bool ((!h8) && z8)) hz hf rfl (by decide) rfl rfl (show a83.tmps[92]? = some (giv true (.bool r91)) from f92) hG15 (fun hW => ?_) (fun a84 hz2 hf2 hd hs => ?_)
  · have ev96 : a83.eval (.tmp 96) = .bool (!h8) := (gv_ev f96).trans (by rw [show G15 = true from hW]; rfl); exact gx_pickand (Wc := G15) rfl ev96 f99 hG16 hW
  replace f1 := (hs 1 (by decide)).trans f1
  replace f2 := (hs 2 (by decide)).trans f2
  replace f3 := (hs 3 (by decide)).trans f3
  replace f92 := (hs 92 (by decide)).trans f92
  clear f96 f99
  have f100 := hd
  clear hz hf hd hs
  have hz := hz2; have hf := hf2; clear hz2 hf2
  obtain ⟨r100, h_r100⟩ : ∃ b : Bool, ((!h8) && z8) = b := ⟨_, rfl⟩
  rw [h_r100] at f100
  refine gv_do (.bool (r91 || r100)) hz hf rfl (by decide) rfl ?_ (fun a85 hz2 hf2 hd hs => ?_)
  · have ev92 := gv_ev f92; exact gx_pickor rfl ev92 f100 hG15
  replace f1 := (hs 1 (by decide)).trans f1
  replace f2 := (hs 2 (by decide)).trans f2
  replace f3 := (hs 3 (by decide)).trans f3
  clear f92 f100
  have f101 := hd
  clear hz hf hd hs
  have hz := hz2; have hf := hf2; clear hz2 hf2
  obtain ⟨r101, h_r101⟩ : ∃ b : Bool, (r91 || r100) = b := ⟨_, rfl⟩
  rw [h_r101] at f101
  refine gv_do (.bool r101) hz hf rfl (by decide) rfl ?_ (fun a86 hz2 hf2 hd hs => ?_)
  · have ev101 := gv_ev f101; exact gx_move rfl ev101
  replace f1 := (hs 1 (by decide)).trans f1
  replace f2 := (hs 2 (by decide)).trans f2
  replace f3 := (hs 3 (by decide)).trans f3
  clear f101
  have f102 := hd
  clear hz hf hd hs
  have hz := hz2; have hf := hf2; clear hz2 hf2
  obtain ⟨G17, hG17⟩ : ∃ W : Bool, (true && (r101 == false)) = W := ⟨_, rfl⟩
  refine gv_if (p := true) (q := r101) (want := false) (W := G17) (.string fs) hz hf rfl (by decide) rfl rfl (show a86.tmps[102]? = some (giv true (.bool r101)) from f102) hG17 (fun hW => ?_) (fun a87 hz2 hf2 hd hs => ?_)
  · have ev3 := gv_ev f3; exact gx_move rfl ev3
  replace f1 := (hs 1 (by decide)).trans f1
  replace f2 := (hs 2 (by decide)).trans f2
  replace f3 := (hs 3 (by decide)).trans f3
  replace f102 := (hs 102 (by decide)).trans f102
  have f103 := hd
  clear hz hf hd hs
  have hz := hz2; have hf := hf2; clear hz2 hf2
  refine gv_call_if (p := true) (q := r101) (want := false) (W := G17) (.bool h9) 73 #[.string fs, .int .u8 113] hz hf rfl (by decide) rfl rfl (show a87.tmps[102]? = some (giv true (.bool r101)) from f102) hG17 (fun hW => ?_) (HS9.out _) (fun a88 hz2 hf2 hd hs => ?_)
  · have ev103 : a87.eval (.tmp 103) = .string fs := (gv_ev f103).trans (by rw [show G17 = true from hW]; rfl); unfold execOp; go_simp; exact (Array.getElem?_eq_some_iff.1 (f103.trans (by rw [show G17 = true from hW]; rfl))).2
  replace f1 := (hs 1 (by decide)).trans f1
  replace f2 := (hs 2 (by decide)).trans f2
  replace f3 := (hs 3 (by decide)).trans f3
  replace f102 := (hs 102 (by decide)).trans f102
  clear f103
  have f104 := hd
  clear hz hf hd hs
  have hz := hz2; have hf := hf2; clear hz2 hf2
  refine gv_if (p := true) (q := r101) (want := false) (W := G17) (.bool (!h9)) hz hf rfl (by decide) rfl rfl (show a88.tmps[102]? = some (giv true (.bool r101)) from f102) hG17 (fun hW => ?_) (fun a89 hz2 hf2 hd hs => ?_)
  · have ev104 : a88.eval (.tmp 104) = .bool h9 := (gv_ev f104).trans (by rw [show G17 = true from hW]; rfl); exact gx_not rfl ev104
  replace f1 := (hs 1 (by decide)).trans f1
  replace f2 := (hs 2 (by decide)).trans f2
  replace f3 := (hs 3 (by decide)).trans f3
  replace f102 := (hs 102 (by decide)).trans f102
  clear f104
  have f105 := hd
  clear hz hf hd hs
  have hz := hz2; have hf := hf2; clear hz2 hf2
  refine gv_if (p := true) (q := r101) (want := false) (W := G17) (.bool (!h9)) hz hf rfl (by decide) rfl rfl (show a89.tmps[102]? = some (giv true (.bool r101)) from f102) hG17 (fun hW => ?_) (fun a90 hz2 hf2 hd hs => ?_)
  · have ev105 : a89.eval (.tmp 105) = .bool (!h9) := (gv_ev f105).trans (by rw [show G17 = true from hW]; rfl); exact gx_move rfl ev105
  replace f1 := (hs 1 (by decide)).trans f1
  replace f2 := (hs 2 (by decide)).trans f2
  replace f3 := (hs 3 (by decide)).trans f3
  replace f102 := (hs 102 (by decide)).trans f102
  clear f105
  have f106 := hd
  clear hz hf hd hs
  have hz := hz2; have hf := hf2; clear hz2 hf2
  obtain ⟨G18, hG18⟩ : ∃ W : Bool, (G17 && ((!h9) == true)) = W := ⟨_, rfl⟩
  refine gv_if (p := G17) (q := (!h9)) (want := true) (W := G18) (.pointer (some ⟨w.heap.size, 34, none⟩)) hz hf rfl (by decide) rfl rfl f106 hG18 (fun hW => ?_) (fun a91 hz2 hf2 hd hs => ?_)
  · have ev1 := gv_ev f1; unfold execOp; simp only [ev1]; go_simp
  replace f1 := (hs 1 (by decide)).trans f1
  replace f2 := (hs 2 (by decide)).trans f2
  replace f3 := (hs 3 (by decide)).trans f3
  replace f102 := (hs 102 (by decide)).trans f102
  replace f106 := (hs 106 (by decide)).trans f106
  have f107 := hd
  clear hz hf hd hs
  have hz := hz2; have hf := hf2; clear hz2 hf2
  refine gv_if (p := G17) (q := (!h9)) (want := true) (W := G18) (.int .i64 c.qt) hz hf rfl (by decide) rfl rfl f106 hG18 (fun hW => ?_) (fun a92 hz2 hf2 hd hs => ?_)
  · have ev107 : a91.eval (.tmp 107) = .pointer (some ⟨w.heap.size, 34, none⟩) := (gv_ev f107).trans (by rw [show G18 = true from hW]; rfl); have k := K9.out; unfold execOp; simp only [ev107]; go_simp
  replace f1 := (hs 1 (by decide)).trans f1
  replace f2 := (hs 2 (by decide)).trans f2
  replace f3 := (hs 3 (by decide)).trans f3
  replace f102 := (hs 102 (by decide)).trans f102
  replace f106 := (hs 106 (by decide)).trans f106
  clear f107
  have f108 := hd
  clear hz hf hd hs
  have hz := hz2; have hf := hf2; clear hz2 hf2
  refine gv_if (p := G17) (q := (!h9)) (want := true) (W := G18) (.bool z9) hz hf rfl (by decide) rfl rfl f106 hG18 (fun hW => ?_) (fun a93 hz2 hf2 hd hs => ?_)
  · have ev108 : a92.eval (.tmp 108) = .int .i64 c.qt := (gv_ev f108).trans (by rw [show G18 = true from hW]; rfl); rw [← show (c.qt != 0) = z9 from ZZ9.out]; unfold execOp; simp only [ev108]; go_simp
  replace f1 := (hs 1 (by decide)).trans f1
  replace f2 := (hs 2 (by decide)).trans f2
  replace f3 := (hs 3 (by decide)).trans f3
  replace f102 := (hs 102 (by decide)).trans f102
  replace f106 := (hs 106 (by decide)).trans f106
  clear f108
  have f109 := hd
  clear hz hf hd hs
  have hz := hz2; have hf := hf2; clear hz2 hf2
  refine gv_if (p := true) (q := r101) (want := false) (W := G17) (.bool ((!h9) && z9)) hz hf rfl (by decide) rfl rfl (show a93.tmps[102]? = some (giv true (.bool r101)) from f102) hG17 (fun hW => ?_) (fun a94 hz2 hf2 hd hs => ?_)
  · have ev106 : a93.eval (.tmp 106) = .bool (!h9) := (gv_ev f106).trans (by rw [show G17 = true from hW]; rfl); exact gx_pickand (Wc := G17) rfl ev106 f109 hG18 hW
  replace f1 := (hs 1 (by decide)).trans f1
  replace f2 := (hs 2 (by decide)).trans f2
  replace f3 := (hs 3 (by decide)).trans f3
  replace f102 := (hs 102 (by decide)).trans f102
  clear f106 f109
  have f110 := hd
  clear hz hf hd hs
  have hz := hz2; have hf := hf2; clear hz2 hf2
  obtain ⟨r110, h_r110⟩ : ∃ b : Bool, ((!h9) && z9) = b := ⟨_, rfl⟩
  rw [h_r110] at f110
  refine gv_do (.bool (r101 || r110)) hz hf rfl (by decide) rfl ?_ (fun a95 hz2 hf2 hd hs => ?_)
  · have ev102 := gv_ev f102; exact gx_pickor rfl ev102 f110 hG17
  replace f1 := (hs 1 (by decide)).trans f1
  replace f2 := (hs 2 (by decide)).trans f2
  replace f3 := (hs 3 (by decide)).trans f3
  clear f102 f110
  have f111 := hd
  clear hz hf hd hs
  have hz := hz2; have hf := hf2; clear hz2 hf2
  obtain ⟨r111, h_r111⟩ : ∃ b : Bool, (r101 || r110) = b := ⟨_, rfl⟩
  rw [h_r111] at f111
  clear K0 K1 K2 K3 K5 K6 K7 K8 K9 HS0 HS1 HS2 HS3 HS5 HS6 HS7 HS8 HS9 HS k0 HW1
  have BAD : Hid (badC c = r111) := Lib.hid (by
    unfold badC
    rw [HH0.out, ZZ0.out, HH1.out, ZZ1.out, HH2.out, ZZ2.out, HH3.out, ZZ3.out, HH4.out, ZZ4.out, HH5.out, ZZ5.out, HH6.out, ZZ6.out, HH7.out, ZZ7.out, HH8.out, ZZ8.out, HH9.out, ZZ9.out]
    rw [h_r22, h_r31, h_r32, h_r41, h_r42, h_r51, h_r52, h_r62, h_r63, h_r71, h_r72, h_r80, h_r81, h_r90, h_r91, h_r100, h_r101, h_r110, h_r111])
  clear h_r22 h_r31 h_r32 h_r41 h_r42 h_r51 h_r52 h_r62 h_r63 h_r71 h_r72 h_r80 h_r81 h_r90 h_r91 h_r100 h_r101 h_r110 h_r111 HH0 ZZ0 HH1 ZZ1 HH2 ZZ2 HH3 ZZ3 HH5 ZZ5 HH6 ZZ6 HH7 ZZ7 HH8 ZZ8 HH9 ZZ9
  refine wpList_nil ?_
  iterate 2 first | go_values | go_skip | go_guarded | go_step | go_upon | go_back
  cases r111
  · have ER := Lib.hid (mcB_good KAB.out.1 KAB.out.2 BAD.out)
    rw [HH4.out] at ER
    refine wp_cond_false (gv_ev f111) ?_
    iterate 5 first | go_values | go_skip | go_guarded | go_step | go_upon | go_back
    clear f111
    refine gv_do (.string fs) hz hf rfl (by decide) rfl ?_ (fun a201 hz2 hf2 hd hs => ?_)
    · have ev3 := gv_ev f3; exact gx_move rfl ev3
    replace f1 := (hs 1 (by decide)).trans f1
    replace f2 := (hs 2 (by decide)).trans f2
    clear f3
    have f112 := hd
    clear hz hf hd hs
    have hz := hz2; have hf := hf2; clear hz2 hf2
    refine gv_call (.bool h4) 73 #[.string fs, .int .u8 115] hz hf rfl (by decide) rfl ?_ (HS4.out _) (fun a202 hz2 hf2 hd hs => ?_)
    · have ev112 := gv_ev f112; unfold execOp; go_simp; exact (Array.getElem?_eq_some_iff.1 f112).2
    replace f1 := (hs 1 (by decide)).trans f1
    replace f2 := (hs 2 (by decide)).trans f2
    clear f112
    have f113 := hd
    clear hz hf hd hs
    have hz := hz2; have hf := hf2; clear hz2 hf2
    refine gv_do (.bool (!h4)) hz hf rfl (by decide) rfl ?_ (fun a203 hz2 hf2 hd hs => ?_)
    · have ev113 := gv_ev f113; exact gx_not rfl ev113
    replace f1 := (hs 1 (by decide)).trans f1
    replace f2 := (hs 2 (by decide)).trans f2
    clear f113
    have f114 := hd
    clear hz hf hd hs
    have hz := hz2; have hf := hf2; clear hz2 hf2
    refine gv_do (.bool (!h4)) hz hf rfl (by decide) rfl ?_ (fun a204 hz2 hf2 hd hs => ?_)
    · have ev114 := gv_ev f114; exact gx_move rfl ev114
    replace f1 := (hs 1 (by decide)).trans f1
    replace f2 := (hs 2 (by decide)).trans f2
    clear f114
    have f115 := hd
    clear hz hf hd hs
    have hz := hz2; have hf := hf2; clear hz2 hf2
    obtain ⟨G0, hG0⟩ : ∃ W : Bool, (true && ((!h4) == false)) = W := ⟨_, rfl⟩
    refine gv_if (p := true) (q := (!h4)) (want := false) (W := G0) (.pointer (some ⟨w.heap.size, 5, none⟩)) hz hf rfl (by decide) rfl rfl (show a204.tmps[115]? = some (giv true (.bool (!h4))) from f115) hG0 (fun hW => ?_) (fun a205 hz2 hf2 hd hs => ?_)
    · have ev1 := gv_ev f1; unfold execOp; simp only [ev1]; go_simp
    replace f2 := (hs 2 (by decide)).trans f2
    replace f115 := (hs 115 (by decide)).trans f115
    clear f1
    have f116 := hd
    clear hz hf hd hs
    have hz := hz2; have hf := hf2; clear hz2 hf2
    refine gv_if (p := true) (q := (!h4)) (want := false) (W := G0) (.agg c.sp.cells) hz hf rfl (by decide) rfl rfl (show a205.tmps[115]? = some (giv true (.bool (!h4))) from f115) hG0 (fun hW => ?_) (fun a206 hz2 hf2 hd hs => ?_)
    · have ev116 : a205.eval (.tmp 116) = .pointer (some ⟨w.heap.size, 5, none⟩) := (gv_ev f116).trans (by rw [show G0 = true from hW]; rfl); exact gx_sp15 rfl ev116 SPR.out OKS.out.len
    replace f2 := (hs 2 (by decide)).trans f2
    replace f115 := (hs 115 (by decide)).trans f115
    clear f116
    have f117 := hd
    clear hz hf hd hs
    have hz := hz2; have hf := hf2; clear hz2 hf2
    refine gv_callb_if (p := true) (q := (!h4)) (want := false) (W := G0) (.bool (mayB c.sp)) 71 #[.agg c.sp.cells] hz hf rfl (by decide) rfl rfl (show a206.tmps[115]? = some (giv true (.bool (!h4))) from f115) hG0 (fun hW => ?_) (MY.out _) (fun a207 w9 q9 hz2 hf2 hd hs => ?_)
    · have ev117 : a206.eval (.tmp 117) = .agg c.sp.cells := (gv_ev f117).trans (by rw [show G0 = true from hW]; rfl); unfold execOp; go_simp; exact (Array.getElem?_eq_some_iff.1 (f117.trans (by rw [show G0 = true from hW]; rfl))).2
    replace f2 := (hs 2 (by decide)).trans f2
    replace f115 := (hs 115 (by decide)).trans f115
    clear f117
    have f118 := hd
    clear hz hf hd hs
    have hz := hz2; have hf := hf2; clear hz2 hf2
    refine gv_do (.bool ((!h4) || (mayB c.sp))) hz hf rfl (by decide) rfl ?_ (fun a208 hz2 hf2 hd hs => ?_)
    · have ev115 := gv_ev f115; exact gx_pickor rfl ev115 f118 hG0
    replace f2 := (hs 2 (by decide)).trans f2
    clear f115 f118
    have f119 := hd
    clear hz hf hd hs
    have hz := hz2; have hf := hf2; clear hz2 hf2
    refine gv_do (.bool ((!h4) || (mayB c.sp))) hz hf rfl (by decide) rfl ?_ (fun a209 hz2 hf2 hd hs => ?_)
    · have ev119 := gv_ev f119; exact gx_assign rfl ev119
    clear f2 f119
    have f2 := hd
    clear hz hf hd hs
    have hz := hz2; have hf := hf2; clear hz2 hf2
    have Q9 := Lib.hid (B1.out.trans (q9.mono B1.out.size))
    refine wpList_nil ?_
    iterate 8 (try (first | go_values | go_skip | go_guarded | go_step | go_upon | go_back))
    (try simp only [Exit.inBlock, Exit.then])
    refine bodyPost_ret (results_tmp rfl _ _ _) hf ?_
    rw [ER.out]
    exact ⟨congrArg Ending.returned (gv_ev f2), Q9.out⟩
  · have ER := Lib.hid (mcB_bad BAD.out)
    refine wp_cond_true (gv_ev f111) ?_
    iterate 10 (try (first | go_values | go_skip | go_guarded | go_step | go_upon | go_back))
    (try simp only [Exit.inBlock, Exit.then])
    refine bodyPost_ret (results_tmp rfl _ _ _) rfl ?_
    rw [ER.out]
    exact ⟨by simp [hz, Array.getD_eq_getD_getElem?], B1.out⟩
set_option maxRecDepth 100000 in
set_option maxHeartbeats 4000000 in
theorem rmayc15 (c : Cm) (w : World) (ok : c.ok) : Calls Tryz.prog 24 #[.agg (ECm.cells c).toArray] w fun e w' => e = .returned (.bool (mcB c)) ∧ Below w.heap.size w w' := by
  by_cases hk : 1 ≤ c.kd ∧ c.kd ≤ 14
  · exact rmayc15_in c w ok hk.1 hk.2
  have EB := Lib.hid (mc_kd (c := c) (by omega))
  obtain ⟨W1, hW1⟩ : ∃ W1, w.alloc (.cells (ECm.cells c).toArray 32) = W1 := ⟨_, rfl⟩
  have x1 : ECm.Bx 32 W1 w.heap.size c := by rw [← hW1]; exact gbx_new w c
  have B1 : Hid (Below w.heap.size w W1) := Lib.hid (by rw [← hW1]; exact below_new w _)
  have k0 : W1.cell? ⟨w.heap.size, 0, none⟩ = some (.int .u8 c.kd) := cm_cell15 x1 ((cm_hd c (i := 0) (by omega)).trans rfl)
  have FI := Lib.hid fun w => rfields15 c.kd ok.kd w
  have HW1 := Lib.hid hW1
  by_cases lo : c.kd < 1
  · have d1 : decide (c.kd < 1) = true := decide_eq_true lo
    clear hk x1 hW1 ok lo
    go_enter Tryz.func24, Tryz.ntmps24
    go_wp2_with (rw [HW1.out])
    refine (FI.out _).mono ?_; rintro e w4 ⟨rfl, rfl⟩
    clear FI
    go_wp2_with fail
    go_ret
    rw [EB.out]
    exact ⟨rfl, B1.out⟩
  · have d1 : decide (c.kd < 1) = false := decide_eq_false lo
    have d2 : decide (14 < c.kd) = true := decide_eq_true (by omega)
    clear hk x1 hW1 ok lo
    go_enter Tryz.func24, Tryz.ntmps24
    go_wp2_with (rw [HW1.out])
    refine (FI.out _).mono ?_; rintro e w4 ⟨rfl, rfl⟩
    clear FI
    go_wp2_with fail
    go_ret
    rw [EB.out]
    exact ⟨rfl, B1.out⟩
end Go.Proofs.YtbmlpokkojhhjaaGreat
