/- Texts of a proof, laid together: Qm, Wdi, Pt, Gvs. -/
import Derived.Deep.RegionHeld3
import Derived.Laws.AppendOwnNone
import Derived.OpenShut
import Derived.BigFrame
import Derived.ProofKit
import Derived.Test.YtbmlpokkojhhjaaGreatG05
import Derived.Test.YtbmlpokkojhhjaaGreatG04
import Derived.Test.YtbmlpokkojhhjaaGreatG02
import Derived.Test.YtbmlpokkojhhjaaGreatG01
/- Contract of the document's plain answer whether a contract's data may be. -/
namespace Go.Proofs.YtbmlpokkojhhjaaGreat
open Go.RowKit

/-- What has been counted among the first k shifts. -/
def Cnt (l : List Int) (k ka kb : Nat) : Prop :=
  ka ≤ k ∧ kb ≤ k ∧ decide (0 < ka) = someUp (l.take k) ∧ decide (0 < kb) = someDown (l.take k) ∧ (l.take k).all (fun x => amB x (-10000000) 10000000) = true
theorem Cnt.start (l : List Int) : Cnt l 0 0 0 := ⟨Nat.le_refl _, Nat.le_refl _, rfl, rfl, rfl⟩
theorem up_snoc (l : List Int) (x : Int) : someUp (l ++ [x]) = (someUp l || decide (0 < x)) := by simp [someUp]
theorem down_snoc (l : List Int) (x : Int) : someDown (l ++ [x]) = (someDown l || decide (x < 0)) := by simp [someDown]
theorem take_more {l : List Int} {k : Nat} (h : k < l.length) : l.take (k + 1) = l.take k ++ [l.getD k 0] := by
  rw [List.take_succ_eq_append_getElem h]
  simp [List.getD, h]
theorem Cnt.next {l : List Int} {k ka kb : Nat} (h : Cnt l k ka kb) (hk : k < l.length) (hx : amB (l.getD k 0) (-10000000) 10000000 = true) :
    (0 < l.getD k 0 → Cnt l (k + 1) (ka + 1) kb) ∧ (l.getD k 0 < 0 → Cnt l (k + 1) ka (kb + 1)) ∧ (l.getD k 0 = 0 → Cnt l (k + 1) ka kb) := by
  obtain ⟨h1, h2, h3, h4, h5⟩ := h
  have e := take_more hk
  obtain ⟨x, hxe⟩ : ∃ x, l.getD k 0 = x := ⟨_, rfl⟩
  rw [hxe] at e hx ⊢
  have ha : (l.take (k + 1)).all (fun x => amB x (-10000000) 10000000) = true := by rw [e, List.all_append, h5]; simp [hx]
  refine ⟨fun c => ⟨by omega, by omega, ?_, ?_, ha⟩, fun c => ⟨by omega, by omega, ?_, ?_, ha⟩, fun c => ⟨by omega, by omega, ?_, ?_, ha⟩⟩
  · rw [e, up_snoc, decide_eq_true c, decide_eq_true (by omega)]; simp
  · rw [e, down_snoc, ← h4, decide_eq_false (by omega : ¬ x < 0)]; simp
  · rw [e, up_snoc, ← h3, decide_eq_false (by omega : ¬ 0 < x)]; simp
  · rw [e, down_snoc, decide_eq_true c, decide_eq_true (by omega)]; simp
  · rw [e, up_snoc, ← h3, decide_eq_false (by omega : ¬ 0 < x)]; simp
  · rw [e, down_snoc, ← h4, decide_eq_false (by omega : ¬ x < 0)]; simp
theorem may_of_cnt {s : Sp} (hh : headB s = true) (hl : s.sh.length = 16) {ka kb : Nat} (h : Cnt s.sh 16 ka kb) : mayB s = (decide (0 < ka) && decide (0 < kb) && prB s.ti s.fi) := by
  obtain ⟨_, _, h3, h4, h5⟩ := h
  have e : s.sh.take 16 = s.sh := List.take_of_length_le (by omega)
  rw [e] at h3 h4 h5
  unfold mayB
  rw [hh, h5, h3, h4]
  simp
theorem may_bad {s : Sp} {k : Nat} (hk : k < s.sh.length) (hx : amB (s.sh.getD k 0) (-10000000) 10000000 = false) : mayB s = false := by
  have : s.sh.all (fun x => amB x (-10000000) 10000000) = false := by
    rw [List.all_eq_false]
    refine ⟨s.sh.getD k 0, ?_, by rw [hx]; exact Bool.false_ne_true⟩
    rw [show s.sh.getD k 0 = s.sh[k] from by simp [List.getD, hk]]
    exact List.getElem_mem _
  unfold mayB
  rw [this]
  simp

set_option maxRecDepth 100000 in
set_option maxHeartbeats 4000000 in
theorem rmay_body (s : Sp) (w : World) (ok : s.ok) (hh : headB s = true) : Calls Tryz.prog 71 #[.agg s.cells] w fun e w' => e = .returned (.bool (mayB s)) ∧ Below w.heap.size w w' := by
  have AM := Lib.hid (fun n l m W => ramong_any n l m W)
  have PR := Lib.hid (fun n W h => rprice_any s.ti n W h)
  have C0 := s.c0
  have C1 := s.c1
  have C2 := s.c2
  have C3 := s.c3
  have C4 := s.c4
  have C5 := s.c5
  have C6 := Lib.hid (fun i h => Sp.c6 ok.len i h)
  have C22 := Sp.c22 ok.len
  have C24 := Sp.c24 ok.len
  have HL := Lib.hid ok.len
  have HSH := Lib.hid ok.sh
  obtain ⟨o1a, o1b⟩ := ok.nu
  obtain ⟨o2a, o2b⟩ := ok.ro
  have hp := head_parts hh
  have MC := Lib.hid (fun ka kb (h : Cnt s.sh 16 ka kb) => may_of_cnt hh ok.len h)
  have MB := Lib.hid (fun k (hk : k < s.sh.length) hx => may_bad (s := s) (k := k) hk hx)
  have d1 : amB s.ti 1 10000000 = true := amB_iff.2 hp.2.2.1
  have d2 : amB s.lo 1 1000000 = true := amB_iff.2 hp.2.2.2.1
  have d3 : amB s.ba 0 10000000 = true := amB_iff.2 hp.2.2.2.2.1
  have d4 : amB s.li 1 10000000 = true := amB_iff.2 hp.2.2.2.2.2.1
  have d5 : amB s.cr 0 10000000 = true := amB_iff.2 hp.2.2.2.2.2.2
  have TI := Lib.hid hp.2.2.1
  obtain ⟨a, ⟨b, c⟩, _⟩ := hp
  have a0 : (s.nu == 0) = false := beq_eq_false_iff_ne.2 a
  have B := Lib.hid ((Below.refl w.heap.size w).alloc (Nat.le_refl _) (.cells s.cells 29))
  clear hh ok
  obtain ⟨nu, hnu⟩ : ∃ nu, s.nu = nu := ⟨_, rfl⟩
  obtain ⟨ro, hro⟩ : ∃ ro, s.ro = ro := ⟨_, rfl⟩
  rw [hnu] at C0 a0 o1a o1b
  rw [hro] at C1 b c o2a o2b
  clear hnu hro a
  go_enter Tryz.func71, Tryz.ntmps71
  go_wp2_with (go_at_call 108; refine (AM.out _ _ _ _).mono ?_; rintro e w' ⟨rfl, rfl⟩)
  go_loop [3, 4, 5] (fun x y i => ∃ k ka kb : Nat, k ≤ 16 ∧ i = .int .i64 k ∧ x = .int .i64 ka ∧ y = .int .i64 kb ∧ Cnt s.sh k ka kb) (fun _ _ i => 16 - (intOf i).toNat)
  case atStart => exact ⟨0, 0, 0, Nat.zero_le _, rfl, rfl, rfl, Cnt.start _⟩
  case round =>
    obtain ⟨k, ka, kb, hk, rfl, rfl, rfl, hc⟩ := hrel
    have HC := Lib.hid hc
    have ha1 := hc.1
    have hb1 := hc.2.1
    clear hc
    by_cases hlt : k < 16
    case neg =>
      obtain rfl : k = 16 := by omega
      have M := Lib.hid (MC.out _ _ HC.out)
      clear C0 C1 C3 C4 C5 C22 d1 d2 d3 d4 d5 a0 o1a o1b o2a o2b b c
      by_cases hka : 0 < ka
      · by_cases hkb : 0 < kb
        · have e1 : decide (0 < (ka : Int)) = true := decide_eq_true (by omega)
          have e2 : decide (0 < (kb : Int)) = true := decide_eq_true (by omega)
          have HM : Hid (mayB s = prB s.ti s.fi) := Lib.hid (by rw [M.out, decide_eq_true hka, decide_eq_true hkb]; simp)
          go_wp2_with fail
          refine (PR.out _ _ TI.out).mono ?_; rintro e w' ⟨rfl, rfl⟩
          go_wp2_with fail
          go_ret
          refine ⟨?_, B.out⟩
          rw [HM.out]
          rfl
        · have e1 : decide (0 < (ka : Int)) = true := decide_eq_true (by omega)
          have e2 : decide (0 < (kb : Int)) = false := decide_eq_false (by omega)
          have HM : Hid (mayB s = false) := Lib.hid (by rw [M.out, decide_eq_false hkb]; simp)
          go_wp2_with fail
          go_ret
          refine ⟨?_, B.out⟩
          rw [HM.out]
          rfl
      · have e1 : decide (0 < (ka : Int)) = false := decide_eq_false (by omega)
        have HM : Hid (mayB s = false) := Lib.hid (by rw [M.out, decide_eq_false hka]; simp)
        go_wp2_with fail
        go_ret
        refine ⟨?_, B.out⟩
        rw [HM.out]
        rfl
    case pos =>
      have hd : decide ((k : Int) < 16) = true := decide_eq_true (by omega)
      have C6k := C6.out k hlt
      have hx := HSH.out (s.sh.getD k 0) (by
        have h3 : k < s.sh.length := by rw [HL.out]; exact hlt
        rw [show s.sh.getD k 0 = s.sh[k] from by simp [List.getD, h3]]
        exact List.getElem_mem _)
      obtain ⟨hx1, hx2⟩ := hx
      have HN := Lib.hid (fun h => HC.out.next (by rw [HL.out]; exact hlt) h)
      have MBk := Lib.hid (MB.out k (by rw [HL.out]; exact hlt))
      obtain ⟨x, hxe⟩ : ∃ x, s.sh.getD k 0 = x := ⟨_, rfl⟩
      rw [hxe] at C6k hx1 hx2 HN MBk
      clear hxe C0 C1 C2 C3 C4 C5 C22 C24 d1 d2 d3 d4 d5 a0 o1a o1b o2a o2b b c
      cases hb : amB x (-10000000) 10000000
      · have HM := Lib.hid (MBk.out hb)
        go_wp2_with (go_at_call 108; refine (AM.out _ _ _ _).mono ?_; rintro e w' ⟨rfl, rfl⟩)
        go_ret
        refine ⟨?_, B.out⟩
        rw [HM.out]
        rfl
      · obtain ⟨n1, n2, n3⟩ := HN.out hb
        rcases Int.lt_trichotomy x 0 with h | h | h
        · have e1 : decide (0 < x) = false := decide_eq_false (by omega)
          have e2 : decide (x < 0) = true := decide_eq_true (by omega)
          have NX := Lib.hid (n2 h)
          clear n1 n2 n3 HN
          go_wp2_with (go_at_call 108; refine (AM.out _ _ _ _).mono ?_; rintro e w' ⟨rfl, rfl⟩)
          go_round
          case rel => exact ⟨k + 1, ka, kb + 1, hlt, by go_num, rfl, by go_num, NX.out⟩
          case measure => simp [intOf]; omega
        · have e1 : decide (0 < x) = false := decide_eq_false (by omega)
          have e2 : decide (x < 0) = false := decide_eq_false (by omega)
          have NX := Lib.hid (n3 h)
          clear n1 n2 n3 HN h
          go_wp2_with (go_at_call 108; refine (AM.out _ _ _ _).mono ?_; rintro e w' ⟨rfl, rfl⟩)
          go_round
          case rel => exact ⟨k + 1, ka, kb, hlt, by go_num, rfl, rfl, NX.out⟩
          case measure => simp [intOf]; omega
        · have e1 : decide (0 < x) = true := decide_eq_true (by omega)
          have e2 : decide (x < 0) = false := decide_eq_false (by omega)
          have NX := Lib.hid (n1 h)
          clear n1 n2 n3 HN
          go_wp2_with (go_at_call 108; refine (AM.out _ _ _ _).mono ?_; rintro e w' ⟨rfl, rfl⟩)
          go_round
          case rel => exact ⟨k + 1, ka + 1, kb, hlt, by go_num, by go_num, rfl, NX.out⟩
          case measure => simp [intOf]; omega
theorem rmay_any (s : Sp) (w : World) (ok : s.ok) : Calls Tryz.prog 71 #[.agg s.cells] w fun e w' => e = .returned (.bool (mayB s)) ∧ Below w.heap.size w w' := by
  cases h : headB s
  · have e : mayB s = false := by
      cases c : mayB s
      · rfl
      · rw [may_head c] at h
        cases h
    rw [e]
    exact rmay_head s w ok h
  · exact rmay_body s w ok h
end Go.Proofs.YtbmlpokkojhhjaaGreat
/- The document's MayCommand (by genWdi.py). -/
namespace Go.Proofs.YtbmlpokkojhhjaaGreat
open Go.RowKit
set_option linter.unusedVariables false
set_option linter.unusedSimpArgs false

/-- A field's letter. -/
def ltr : Nat → Nat
  | 0 => 97
  | 1 => 99
  | 2 => 110
  | 3 => 109
  | 4 => 115
  | 5 => 111
  | 6 => 98
  | 7 => 107
  | 8 => 112
  | _ => 113
theorem fsB_tx (k : Int) : fsB k = txB ((flds k).map ltr) := by
  by_cases e1 : k = 1
  · subst e1; rfl
  by_cases e2 : k = 2
  · subst e2; rfl
  by_cases e3 : k = 3
  · subst e3; rfl
  by_cases e4 : k = 4
  · subst e4; rfl
  by_cases e5 : k = 5
  · subst e5; rfl
  by_cases e6 : k = 6
  · subst e6; rfl
  by_cases e7 : k = 7
  · subst e7; rfl
  by_cases e8 : k = 8
  · subst e8; rfl
  by_cases e9 : k = 9
  · subst e9; rfl
  by_cases e10 : k = 10
  · subst e10; rfl
  by_cases e11 : k = 11
  · subst e11; rfl
  by_cases e13 : k = 13
  · subst e13; rfl
  by_cases e14 : k = 14
  · subst e14; rfl
  unfold fsB flds
  rw [if_neg e1, if_neg e2, if_neg e3, if_neg e4, if_neg e5, if_neg e6, if_neg e7, if_neg e8, if_neg e9, if_neg e10, if_neg e11, if_neg e13, if_neg e14, if_neg e1, if_neg e2, if_neg e3, if_neg e4, if_neg e5, if_neg e6, if_neg e7, if_neg e8, if_neg e9, if_neg e10, if_neg e11, if_neg e13, if_neg e14]
  rfl
theorem ltr_lt (l : List Nat) : ∀ c, c ∈ l.map ltr → c < 256 := fun c hc => by
  obtain ⟨i, _, rfl⟩ := List.mem_map.1 hc
  unfold ltr
  split <;> omega
theorem flds_len (k : Int) : (flds k).length ≤ 6 := by
  by_cases e1 : k = 1
  · subst e1; decide
  by_cases e2 : k = 2
  · subst e2; decide
  by_cases e3 : k = 3
  · subst e3; decide
  by_cases e4 : k = 4
  · subst e4; decide
  by_cases e5 : k = 5
  · subst e5; decide
  by_cases e6 : k = 6
  · subst e6; decide
  by_cases e7 : k = 7
  · subst e7; decide
  by_cases e8 : k = 8
  · subst e8; decide
  by_cases e9 : k = 9
  · subst e9; decide
  by_cases e10 : k = 10
  · subst e10; decide
  by_cases e11 : k = 11
  · subst e11; decide
  by_cases e13 : k = 13
  · subst e13; decide
  by_cases e14 : k = 14
  · subst e14; decide
  unfold flds
  rw [if_neg e1, if_neg e2, if_neg e3, if_neg e4, if_neg e5, if_neg e6, if_neg e7, if_neg e8, if_neg e9, if_neg e10, if_neg e11, if_neg e13, if_neg e14]
  decide
/-- A letter asked for. -/
theorem rhas_k15 (k : Int) (x : Int) (w : World) : Calls Tryz.prog 73 #[.string (fsB k), .int .u8 x] w fun e w' => e = .returned (.bool (hasB ((flds k).map ltr) x)) ∧ w = w' := by
  rw [fsB_tx]
  exact rhas15 _ (ltr_lt _) (by rw [List.length_map]; have := flds_len k; omega) x w
noncomputable def eqSp15 (s t : Sp) : Bool := open Classical in decide (s = t)
theorem eqSp15_yes {s t : Sp} : eqSp15 s t = true ↔ s = t := by simp [eqSp15]
theorem eqSp15_no {s t : Sp} (h : s ≠ t) : eqSp15 s t = false := by simp [eqSp15, h]
theorem eq_sp15_run (x y : Sp) (hx : x.ok) (hy : y.ok) (w : World) : (Op.equalIn 10000 29 (.agg x.cells) (.agg y.cells)).run Tryz.prog w = .ok (eqSp15 x y) w := by
  obtain ⟨r, h1, h2⟩ := run_equalIn_deep (P := Tryz.prog) 9997 3 29 key_sp w 3 3 (.agg x.cells) (.agg y.cells) x.lits y.lits (formed_sp x hx.len) (formed_sp y hy.len) (lits_sp x hx) (lits_sp y hy)
  rw [h1]
  have : r = eqSp15 x y := by
    have h3 : r = true ↔ x = y := h2.trans ⟨sp_lits_inj15 hx.len hy.len, fun e => by rw [e]⟩
    by_cases c : x = y
    · rw [h3.2 c, eqSp15_yes.2 c]
    · rw [eqSp15_no c]
      cases r
      · rfl
      · exact absurd (h3.1 rfl) c
  rw [this]
theorem exec_neq_sp15 {o : Oper} {a : Act} {x y : Operand} {t2 : TypeId} (ho : o.op = .binOp .neq 29 x y t2) {u v : Sp} (hu : u.ok) (hv : v.ok) (hx : a.eval x = .agg u.cells) (hy : a.eval y = .agg v.cells) (w : World) :
    (execOp a.eval o).run Tryz.prog w = .ok (.value (.bool (!eqSp15 u v))) w := by
  unfold execOp
  simp only [ho, hx, hy, Sem.run_bind, run_eqGuard_agg w _ _ _ _ _ _ guard_sp, Result.andThen_ok, run_neq_struct, eq_sp15_run u v hu hv w, Sem.run_pure]
theorem sp_lenL15 {s : Sp} (h : s.sh.length = 16) : s.cellL.length = 25 := by simp [Sp.cellL, h]
section
variable {ops : Array Oper} {rest : List Oper} {a : Act} {w : World} {Q : Exit → Act → World → Prop} {d : Option Nat} {x y : Operand} {t2 ty : TypeId} {ps : String} {af : Array Edge} {gd : Option (Nat × Bool)}
theorem wl_neq_sp15 {u v : Sp} (hu : u.ok) (hv : v.ok) (hw : Region.wanted ⟨d, .binOp .neq 29 x y t2, ty, ps, af, gd⟩ (yielded ops a.tmps) = true) (hx : a.eval x = .agg u.cells) (hy : a.eval y = .agg v.cells)
    (h : wpList Tryz.prog ops Q rest (a.put d (.bool (!eqSp15 u v))) w) : wpList Tryz.prog ops Q (⟨d, .binOp .neq 29 x y t2, ty, ps, af, gd⟩ :: rest) a w :=
  BigFrame.wpList_want hw fun _ hK => by
    unfold Oper.wp
    rw [exec_neq_sp15 rfl hu hv hx hy w]
    exact hK _ _ h
theorem wl_sp15 {s : Sp} (hl : s.sh.length = 16) (b o : Nat) (hb : w.rangeAt b o s.cellL)
    (hw : Region.wanted ⟨d, .load 29 x, ty, ps, af, gd⟩ (yielded ops a.tmps) = true) (hx : a.eval x = .pointer (some ⟨b, o, none⟩)) (h : wpList Tryz.prog ops Q rest (a.put d (.agg s.cells)) w) : wpList Tryz.prog ops Q (⟨d, .load 29 x, ty, ps, af, gd⟩ :: rest) a w :=
  BigFrame.wpList_want hw fun _ hK => wp_load_mid 29 x rfl b o hx s.cellL _ hb Tryz.underlying29 rfl (by rw [info_sp, sp_lenL15 hl]) (hK _ _ h)
theorem built_zsp15 : Program.built Tryz.prog 29 [] = some zeroSpW.cells := by kernel_rfl
theorem wl_build_sp15 (hw : Region.wanted ⟨d, .build 29 #[], ty, ps, af, gd⟩ (yielded ops a.tmps) = true) (h : wpList Tryz.prog ops Q rest (a.put d (.agg zeroSpW.cells)) w) : wpList Tryz.prog ops Q (⟨d, .build 29 #[], ty, ps, af, gd⟩ :: rest) a w :=
  BigFrame.wpList_want hw fun _ hK => by
    have e : (Array.map (fun ((i : Nat), (x : Operand)) => (i, a.eval x)) #[]).toList = [] := by simp
    unfold Oper.wp execOp
    simp only [Sem.run_bind, run_build w 29 _ _ (by rw [e]; exact built_zsp15), Result.andThen_ok, Sem.run_pure]
    exact hK _ _ h
end
theorem mc_bad {c : Cm} {i : Nat} (hi : i < 10) (h : i ∉ flds c.kd) (hn : ¬ noF c i) : mcB c = false := by
  cases e : mcB c
  · rfl
  · exact absurd ((mcB_yes.1 e).no i hi h) hn
theorem mc_kd {c : Cm} (h : c.kd < 1 ∨ 14 < c.kd) : mcB c = false := by
  cases e : mcB c
  · rfl
  · have := (mcB_yes.1 e).kd; omega
theorem cm_cell15 {w : World} {g : Nat} {te : TypeId} {c : Cm} (h : ECm.Bx te w g c) {j : Nat} {v : Value} (hj : (ECm.cells c)[j]? = some v) : w.cell? ⟨g, j, none⟩ = some v := (gbx_cell h j).trans hj
theorem cm_rng15 {w : World} {g : Nat} {te : TypeId} {c : Cm} (h : ECm.Bx te w g c) : w.rangeAt g 5 c.sp.cellL := fun j u hj => by
  have hl : j < 25 := by have := (List.getElem?_eq_some_iff.1 hj).1; rw [sp_len15 c.len] at this; exact this
  exact cm_cell15 h ((cm_sp c hl).trans hj)
end Go.Proofs.YtbmlpokkojhhjaaGreat
/- Plain facts on lists of bytes that are made, joined, appended to; no program's function. -/
namespace Go.Proofs.YtbmlpokkojhhjaaGreat
open Go.RowKit

/-- What a form's call hands back: a new list. -/
def Made (w : World) (bs : List Int) (e : Ending) (W : World) : Prop := ∃ v, e = .returned v ∧ New w W v bs
theorem own_one (w : World) (x : Int) : (w.alloc (.cells #[.int .u8 x] 5)).ownsRow w.heap.size 5 1 (.slice (some ⟨w.heap.size, 0, none⟩) 1 1) 1 [.int .u8 x] :=
  ⟨rfl, .inr ⟨w.heap.size, 1, #[.int .u8 x], rfl, Nat.le_refl _, heap_alloc_new w _, Nat.le_refl _, by unfold maxLen; omega, rfl, rfl⟩⟩
theorem new_one (w : World) (x : Int) : New w (w.alloc (.cells #[.int .u8 x] 5)) (.slice (some ⟨w.heap.size, 0, none⟩) 1 1) [x] :=
  ⟨own_one w x, (Below.refl _ w).alloc (Nat.le_refl _) _⟩
theorem own_none (w : World) : (w.alloc (.cells #[] 5)).ownsRow w.heap.size 5 1 (.slice (some ⟨w.heap.size, 0, none⟩) 0 0) 0 [] :=
  ⟨rfl, .inr ⟨w.heap.size, 0, #[], rfl, Nat.le_refl _, heap_alloc_new w _, Nat.le_refl _, by unfold maxLen; omega, rfl, rfl⟩⟩
theorem two_alloc (w : World) (a b : Obj) : w.heap.size ≤ ((w.alloc a).alloc b).heap.size := by
  have h1 : (w.alloc a).heap.size = w.heap.size + 1 := by simp
  have h2 : ((w.alloc a).alloc b).heap.size = (w.alloc a).heap.size + 1 := by simp
  omega
theorem one_alloc (w : World) (a : Obj) : w.heap.size ≤ (w.alloc a).heap.size := by simp
theorem own_cap {W : World} {base g cap m : Nat} {e : TypeId} {size : Nat} {xs : List Value} (h : W.ownsRow base e size (.slice (some ⟨g, 0, none⟩) m cap) m xs) : m ≤ cap := by
  rcases h.2 with ⟨h', _⟩ | ⟨g', cap', cur, h', _, _, hc, _⟩
  · simp at h'
  · simp only [Value.slice.injEq] at h'
    omega
/-- S may be made stronger on the way. -/
theorem wpAnyH_more {P : Program} {ops : Array Oper} {Q : Exit → Act → World → Prop} {md : Region.Mode} {S S1 : World → Prop} (hs : ∀ w, S1 w → S w) : ∀ (fuel : Nat) (listed : Array Bool) (a : Act) (w : World),
    wpAnyH P md ops Q S1 fuel listed a w → wpAnyH P md ops Q S fuel listed a w
  | 0, _, _, _, h => h
  | fuel + 1, listed, a, w, h => by
    exact ⟨h.1, fun i hi => wpOp_mono (fun a' w' k => ⟨hs _ k.1, wpAnyH_more hs fuel _ a' w' k.2⟩) (h.2 i hi)⟩
theorem owns_rd {W : World} {base : Nat} {v : Value} {bs : List Int} (o : W.ownsRow base 5 1 v bs.length (bs.map (Value.int .u8))) : ∃ A c, v = .slice A bs.length c ∧ RdB W A bs.length bs := by
  rcases o.2 with ⟨e1, e2⟩ | ⟨g, cap, cur, e1, _, _⟩
  · exact ⟨none, 0, by rw [e1, e2], rfl, fun hn => absurd hn (by omega)⟩
  · rw [e1] at o
    refine ⟨some ⟨g, 0, none⟩, cap, e1, rfl, fun _ => ⟨g, 0, rfl, fun j hj => ?_⟩⟩
    rw [Nat.zero_add, o.cellAt j (by omega)]
    simp [List.getD, hj]
theorem map_snoc (l : List Int) (x : Int) : (l ++ [x]).map (Value.int .u8) = l.map (Value.int .u8) ++ [.int .u8 x] := by simp
theorem len_map (l : List Int) (n : Nat) (h : l.length = n) : (l.map (Value.int .u8)).length = n := by rw [List.length_map]; exact h
theorem new_news (wr : World) (x : Int) : ∀ j u, ([.int .u8 x] : List Value)[j]? = some u → (wr.alloc (.cells #[.int .u8 x] 5)).cell? ((⟨wr.heap.size, 0, none⟩ : Addr).add j) = some u := by
  intro j u hj
  match j, hj with
  | 0, hj => simp at hj; subst hj; simp [Addr.add]
theorem one_x (x : Int) : ∀ u ∈ ([.int .u8 x] : List Value), u.oneCell' = true := by intro u hu; simp at hu; subst hu; rfl
/-- A part of what is joined. -/
structure Pt where
  A : Option Addr
  n : Nat
  c : Nat
  bs : List Int
def Pt.v (p : Pt) : Value := .slice p.A p.n p.c
def Pt.ok (W : World) (p : Pt) : Prop := RdB W p.A p.n p.bs ∧ (p.A = none → p.n = 0 ∧ p.c = 0)
def cat : List Pt → List Int
  | [] => []
  | p :: l => p.bs ++ cat l
theorem cat_take : ∀ (ps : List Pt) (k : Nat) (p : Pt), ps[k]? = some p → cat (ps.take (k + 1)) = cat (ps.take k) ++ p.bs
  | [], k, p, h => by simp at h
  | q :: l, 0, p, h => by simp at h; subst h; simp [cat]
  | q :: l, k + 1, p, h => by
    have := cat_take l k p (by simpa using h)
    simp [cat, this]
theorem cat_le : ∀ (ps : List Pt) (k : Nat), (cat (ps.take k)).length ≤ (cat ps).length
  | [], k => by simp
  | q :: l, 0 => by simp [cat]
  | q :: l, k + 1 => by
    have := cat_le l k
    simp [cat]; omega
theorem owns_pt {W : World} {base : Nat} {v : Value} {bs : List Int} (o : W.ownsRow base 5 1 v bs.length (bs.map (Value.int .u8))) : ∃ A c, v = .slice A bs.length c ∧ RdB W A bs.length bs ∧ (A = none → bs.length = 0 ∧ c = 0) := by
  rcases o.2 with ⟨e1, e2⟩ | ⟨g, cap, cur, e1, _, _⟩
  · exact ⟨none, 0, by rw [e1, e2], ⟨rfl, fun hn => absurd hn (by omega)⟩, fun _ => ⟨e2, rfl⟩⟩
  · rw [e1] at o
    refine ⟨some ⟨g, 0, none⟩, cap, e1, ⟨rfl, fun _ => ⟨g, 0, rfl, fun j hj => ?_⟩⟩, fun h => by cases h⟩
    rw [Nat.zero_add, o.cellAt j (by omega)]
    simp [List.getD, hj]
theorem own_less {W : World} {base base' e size n : Nat} {v : Value} {xs : List Value} (o : W.ownsRow base' e size v n xs) (h : base ≤ base') : W.ownsRow base e size v n xs := by
  refine ⟨o.1, ?_⟩
  rcases o.2 with h1 | ⟨g, cap, cur, e1, hb, rest⟩
  · exact .inl h1
  · exact .inr ⟨g, cap, cur, e1, Nat.le_trans h hb, rest⟩
theorem below_grown {W W' : World} (h : Below W.heap.size W W') (row : Option Nat) : W.grownBy W' row := ⟨h.os, h.tape, h.output, h.size, fun k hk _ => h.block k hk⟩
/-- The list of two or three parts that a call joins, as it lies in memory. -/
theorem two_at (W : World) (p q : Pt) : ∀ j r, [p, q][j]? = some r → (W.alloc (.cells #[p.v, q.v] 22)).cell? ⟨W.heap.size, j, none⟩ = some r.v := by
  intro j r h
  match j, h with
  | 0, h => simp at h; subst h; simp
  | 1, h => simp at h; subst h; simp
theorem three_at (W : World) (p q s : Pt) : ∀ j r, [p, q, s][j]? = some r → (W.alloc (.cells #[p.v, q.v, s.v] 22)).cell? ⟨W.heap.size, j, none⟩ = some r.v := by
  intro j r h
  match j, h with
  | 0, h => simp at h; subst h; simp
  | 1, h => simp at h; subst h; simp
  | 2, h => simp at h; subst h; simp
theorem Pt.ok.below {W W' : World} {p : Pt} (h : p.ok W) (b : Below W.heap.size W W') : p.ok W' := ⟨h.1.below b, h.2⟩
theorem size_alloc (w : World) (o : Obj) : (w.alloc o).heap.size = w.heap.size + 1 := by simp
/-- A byte is written in a row of one's own. -/
theorem own_put {W : World} {base gt nt cap k : Nat} {xs : List Int} (o : W.ownsRow base 5 1 (.slice (some ⟨gt, 0, none⟩) nt cap) nt (xs.map (Value.int .u8))) (y : Int) :
    (W.setCell ⟨gt, k, none⟩ (.int .u8 y)).ownsRow base 5 1 (.slice (some ⟨gt, 0, none⟩) nt cap) nt ((xs.set k y).map (Value.int .u8)) ∧ W.frozen? ⟨gt, k, none⟩ = false ∧ base ≤ gt := by
  obtain ⟨g', cap', cur, e, hg, hh, hn, hm, hs, ht⟩ := o.2.resolve_left (fun c => by cases c.1)
  cases e
  refine ⟨⟨?_, .inr ⟨gt, cap, cur.setIfInBounds k (.int .u8 y), rfl, hg, heap_setCell_same W gt k cur _ _ hh, hn, hm, by rw [Array.size_setIfInBounds]; exact hs, ?_⟩⟩, frozen_of_row W gt k _ _ hh, hg⟩
  · have := o.1
    rw [List.length_map] at this
    rw [List.length_map, List.length_set]; exact this
  · rw [Array.toList_setIfInBounds, List.take_set, ht, List.map_set]
/-- A list that is nil or not, behind a row of one's own. -/
theorem wpl_append {w : World} {ops : Array Oper} {rest : List Oper} {o : Oper} {a : Act} {Q : Exit → Act → World → Prop} (hgd : o.guard = none) (s x : Operand)
    (ho : o.op = .call { callee := .builtin .append, args := #[s, x], argTypes := #[22, 22] }) (base : Nat) (v : Value) (n : Nat) (xs : List Value) (hs : a.eval s = v)
    (hown : w.ownsRow base 5 1 v n xs) (A : Option Addr) (m c : Nat) (bs : List Int) (hx : a.eval x = .slice A m c) (hr : RdB w A m bs) (h0 : A = none → m = 0 ∧ c = 0) (hlen : n + m ≤ 4000000) (hbase : base ≤ w.heap.size)
    (h : ∀ v' w', w'.ownsRow base 5 1 v' (n + m) (xs ++ bs.map (Value.int .u8)) → w.grownBy w' v.ownBlock → wpList Tryz.prog ops Q rest (a.put o.dst v') w') : wpList Tryz.prog ops Q (o :: rest) a w := by
  obtain ⟨i0, hi0, hz0, hz1, hz2⟩ := info_parts info_u8
  cases A with
  | none =>
    obtain ⟨rfl, rfl⟩ := h0 rfl
    have e : bs = [] := List.eq_nil_of_length_eq_zero hr.1
    subst e
    refine wpList_append_own_none hgd s x 22 ho base 5 i0 1 Tryz.underlying22 hi0 v n xs hs hown hx ?_
    exact h v w (by simpa using hown) (World.grownBy.refl _ _)
  | some ad =>
    exact wpList_append_own w hgd s x 22 ho base 5 i0 (.int .u8 0) 1 1 Tryz.underlying22 hi0 hz0 hz1 hz2 rfl (by decide) v n xs hs hown ad m c (bs.map (Value.int .u8)) hx (by rw [List.length_map, hr.1, Nat.mul_one]) (news_rd hr) (one_u8 _) (by unfold maxLen; omega) (by omega) hbase fun v' w' h2 h3 _ => h v' w' h2 h3
/-- What is told of a list of bytes that came in. -/
abbrev Row8 (w : World) (a : Option Addr) (len cap : Nat) (zs : List Int) : Prop :=
  (a = none ∧ len = 0 ∧ cap = 0 ∧ zs = []) ∨ ∃ x, a = some x ∧ len ≤ cap ∧ cap ≤ maxLen ∧ zs.length = cap ∧ (∀ i, i < zs.length → w.cell? (x.add i) = some (.int .u8 (zs.getD i 0))) ∧ ∀ n ∈ zs, (Lit.int .u8 n).wf = true
theorem rdb_in {w : World} {a : Option Addr} {len cap : Nat} {zs : List Int}
    (h : (a = none ∧ len = 0 ∧ cap = 0 ∧ zs = []) ∨ ∃ x, a = some x ∧ len ≤ cap ∧ cap ≤ maxLen ∧ zs.length = cap ∧ (∀ i, i < zs.length → w.cell? (x.add i) = some (.int .u8 (zs.getD i 0))) ∧ ∀ n ∈ zs, (Lit.int .u8 n).wf = true) :
    RdB w a len (zs.take len) ∧ By (zs.take len) ∧ (a = none → len = 0 ∧ cap = 0) ∧ len ≤ cap ∧ len ≤ 9223372036854775807 := by
  rcases h with ⟨rfl, rfl, rfl, rfl⟩ | ⟨x, rfl, hl, hm, hz, hc, hw⟩
  · exact ⟨⟨rfl, fun h => absurd h (Nat.lt_irrefl 0)⟩, by intro n hn; simp at hn, fun _ => ⟨rfl, rfl⟩, Nat.le_refl _, by omega⟩
  · refine ⟨⟨by rw [List.length_take]; omega, fun hn => ?_⟩, fun n hn => bounds_u8 (hw n (List.mem_of_mem_take hn)), (fun h => by cases h), hl, by unfold maxLen at hm; omega⟩
    obtain ⟨b, off, rfl, hc'⟩ := ints_at hc (by omega)
    refine ⟨b, off, rfl, fun j hj => ?_⟩
    rw [hc' j (by omega)]
    simp [List.getD, hj]
end Go.Proofs.YtbmlpokkojhhjaaGreat
/- GENERIC: a long region walked operation by operation, the frame a variable; values that hang on a guard. -/
namespace Go.Proofs.YtbmlpokkojhhjaaGreat
open Go.RowKit
set_option linter.unusedVariables false
set_option linter.unusedSimpArgs false

/-- Here the walk stops. -/
def Stop (p : Prop) : Prop := p
theorem stop_of {p : Prop} (h : Stop p) : p := h
theorem stop_end {p : Prop} (h : p) : Stop p := h
/-- The value of an operation that was wanted, or not. -/
def giv : Bool → Value → Value
  | true, v => v
  | false, _ => undef
section
variable {P : Program} {ops : Array Oper} {rest : List Oper} {o : Oper} {a : Act} {w : World} {Q : Exit → Act → World → Prop} {n d j dj : Nat}
theorem gv_ev {s : Nat} {v : Value} (h : a.tmps[s]? = some v) : a.eval (.tmp s) = v := by
  unfold Act.eval
  simp [Array.getD_eq_getD_getElem?, h]
theorem gv_wanted {p q want : Bool} (hg : o.guard = some (j, want)) (hj : (ops[j]?).bind (·.dst) = some dj) (hb : a.tmps[dj]? = some (giv p (.bool q))) : Region.wanted o (yielded ops a.tmps) = (p && (q == want)) := by
  unfold Region.wanted yielded
  rw [hg]
  dsimp only
  rw [hj]
  simp only [Option.bind_some, hb]
  cases p <;> cases q <;> cases want <;> rfl
theorem gv_free (hg : o.guard = none) : Region.wanted o (yielded ops a.tmps) = true := by
  unfold Region.wanted
  rw [hg]
theorem gv_if {p q want W : Bool} (v : Value) (hz : a.tmps.size = n) (hf : a.defers = []) (hd : o.dst = some d) (hdn : d < n) (hg : o.guard = some (j, want)) (hj : (ops[j]?).bind (·.dst) = some dj) (hb : a.tmps[dj]? = some (giv p (.bool q))) (hW : (p && (q == want)) = W)
    (e : W = true → (execOp a.eval o).run P w = .ok (.value v) w)
    (h : ∀ a' : Act, a'.tmps.size = n → a'.defers = [] → a'.tmps[d]? = some (giv W v) → (∀ s, s ≠ d → a'.tmps[s]? = a.tmps[s]?) → wpList P ops Q rest a' w) : wpList P ops Q (o :: rest) a w := by
  have hw := gv_wanted hg hj hb
  rw [hW] at hw
  have key : ∀ v', wpList P ops Q rest (a.put (some d) (giv W v')) w ∨ True := fun _ => .inr trivial
  have h' : wpList P ops Q rest (a.put (some d) (giv W v)) w := h _ (by simp [Act.put, hz]) hf (by simp only [Act.put]; rw [Array.getElem?_setIfInBounds_self_of_lt (by omega)]) (fun s hs => by simp only [Act.put]; rw [Array.getElem?_setIfInBounds_ne (by omega)])
  cases W
  · refine wpList_skip hw ?_
    rw [hd]
    exact h'
  · refine BigFrame.wpList_want hw fun K hK => ?_
    unfold Oper.wp
    rw [e rfl, Oper.upon_value, hd]
    exact hK _ _ h'
theorem gv_do (v : Value) (hz : a.tmps.size = n) (hf : a.defers = []) (hd : o.dst = some d) (hdn : d < n) (hg : o.guard = none)
    (e : (execOp a.eval o).run P w = .ok (.value v) w)
    (h : ∀ a' : Act, a'.tmps.size = n → a'.defers = [] → a'.tmps[d]? = some v → (∀ s, s ≠ d → a'.tmps[s]? = a.tmps[s]?) → wpList P ops Q rest a' w) : wpList P ops Q (o :: rest) a w := by
  have h' : wpList P ops Q rest (a.put (some d) v) w := h _ (by simp [Act.put, hz]) hf (by simp only [Act.put]; rw [Array.getElem?_setIfInBounds_self_of_lt (by omega)]) (fun s hs => by simp only [Act.put]; rw [Array.getElem?_setIfInBounds_ne (by omega)])
  refine BigFrame.wpList_want (gv_free hg) fun K hK => ?_
  unfold Oper.wp
  rw [e, Oper.upon_value, hd]
  exact hK _ _ h'
theorem gv_call_if {p q want W : Bool} (v : Value) (f : FuncId) (args : Array Value) (hz : a.tmps.size = n) (hf : a.defers = []) (hd : o.dst = some d) (hdn : d < n) (hg : o.guard = some (j, want)) (hj : (ops[j]?).bind (·.dst) = some dj) (hb : a.tmps[dj]? = some (giv p (.bool q))) (hW : (p && (q == want)) = W)
    (e : W = true → (execOp a.eval o).run P w = .ok (.enter f args) w) (hc : Calls P f args w fun e w' => e = .returned v ∧ w = w')
    (h : ∀ a' : Act, a'.tmps.size = n → a'.defers = [] → a'.tmps[d]? = some (giv W v) → (∀ s, s ≠ d → a'.tmps[s]? = a.tmps[s]?) → wpList P ops Q rest a' w) : wpList P ops Q (o :: rest) a w := by
  have hw := gv_wanted hg hj hb
  rw [hW] at hw
  have h' : wpList P ops Q rest (a.put (some d) (giv W v)) w := h _ (by simp [Act.put, hz]) hf (by simp only [Act.put]; rw [Array.getElem?_setIfInBounds_self_of_lt (by omega)]) (fun s hs => by simp only [Act.put]; rw [Array.getElem?_setIfInBounds_ne (by omega)])
  cases W
  · refine wpList_skip hw ?_
    rw [hd]
    exact h'
  · refine BigFrame.wpList_want hw fun K hK => ?_
    unfold Oper.wp
    rw [e rfl, Oper.upon_enter]
    refine hc.mono fun e w'' hh => ?_
    obtain ⟨rfl, rfl⟩ := hh
    rw [hd]
    exact hK _ _ h'
theorem gv_call (v : Value) (f : FuncId) (args : Array Value) (hz : a.tmps.size = n) (hf : a.defers = []) (hd : o.dst = some d) (hdn : d < n) (hg : o.guard = none)
    (e : (execOp a.eval o).run P w = .ok (.enter f args) w) (hc : Calls P f args w fun e w' => e = .returned v ∧ w = w')
    (h : ∀ a' : Act, a'.tmps.size = n → a'.defers = [] → a'.tmps[d]? = some v → (∀ s, s ≠ d → a'.tmps[s]? = a.tmps[s]?) → wpList P ops Q rest a' w) : wpList P ops Q (o :: rest) a w := by
  have h' : wpList P ops Q rest (a.put (some d) v) w := h _ (by simp [Act.put, hz]) hf (by simp only [Act.put]; rw [Array.getElem?_setIfInBounds_self_of_lt (by omega)]) (fun s hs => by simp only [Act.put]; rw [Array.getElem?_setIfInBounds_ne (by omega)])
  refine BigFrame.wpList_want (gv_free hg) fun K hK => ?_
  unfold Oper.wp
  rw [e, Oper.upon_enter]
  refine hc.mono fun e w'' hh => ?_
  obtain ⟨rfl, rfl⟩ := hh
  rw [hd]
  exact hK _ _ h'
theorem gv_callb_if {p q want W : Bool} (v : Value) (f : FuncId) (args : Array Value) (hz : a.tmps.size = n) (hf : a.defers = []) (hd : o.dst = some d) (hdn : d < n) (hg : o.guard = some (j, want)) (hj : (ops[j]?).bind (·.dst) = some dj) (hb : a.tmps[dj]? = some (giv p (.bool q))) (hW : (p && (q == want)) = W)
    (e : W = true → (execOp a.eval o).run P w = .ok (.enter f args) w) (hc : Calls P f args w fun e w' => e = .returned v ∧ Below w.heap.size w w')
    (h : ∀ (a' : Act) (w' : World), Below w.heap.size w w' → a'.tmps.size = n → a'.defers = [] → a'.tmps[d]? = some (giv W v) → (∀ s, s ≠ d → a'.tmps[s]? = a.tmps[s]?) → wpList P ops Q rest a' w') : wpList P ops Q (o :: rest) a w := by
  have hw := gv_wanted hg hj hb
  rw [hW] at hw
  have h' : ∀ w', Below w.heap.size w w' → wpList P ops Q rest (a.put (some d) (giv W v)) w' := fun w' q => h _ w' q (by simp [Act.put, hz]) hf (by simp only [Act.put]; rw [Array.getElem?_setIfInBounds_self_of_lt (by omega)]) (fun s hs => by simp only [Act.put]; rw [Array.getElem?_setIfInBounds_ne (by omega)])
  cases W
  · refine wpList_skip hw ?_
    rw [hd]
    exact h' _ (Below.refl _ _)
  · refine BigFrame.wpList_want hw fun K hK => ?_
    unfold Oper.wp
    rw [e rfl, Oper.upon_enter]
    refine hc.mono fun e w'' hh => ?_
    obtain ⟨rfl, hq⟩ := hh
    rw [hd]
    exact hK _ _ (h' _ hq)
theorem gx_assign {x : Operand} {v : Value} (ho : o.op = .assign x) (hx : a.eval x = v) : (execOp a.eval o).run P w = .ok (.value v) w := by
  unfold execOp
  simp only [ho, hx, Sem.run_bind, Sem.run_pure, Result.andThen_ok]
theorem gx_len {x : Operand} {t e : TypeId} {A : Option Addr} {m c : Nat} (hu : P.underlying t = some (.slice e)) (ho : o.op = .call { callee := .builtin .len, args := #[x], argTypes := #[t] }) (hx : a.eval x = .slice A m c) : (execOp a.eval o).run P w = .ok (.value (.int .i64 m)) w := by
  unfold execOp
  simp only [ho, resolve, invoke, builtin, Sem.run_bind, Sem.run_pure, Result.andThen_ok, List.map_toArray, List.map_cons, List.map_nil, hx]
  go_simp
theorem gx_move {x : Operand} {v : Value} (ho : o.op = .move x) (hx : a.eval x = v) : (execOp a.eval o).run P w = .ok (.value v) w := by
  unfold execOp
  simp only [ho, hx, Sem.run_bind, Sem.run_pure, Result.andThen_ok]
theorem gx_pick {c x y : Operand} {q : Bool} {v : Value} (ho : o.op = .pick c x y) (hc : a.eval c = .bool q) (hv : (if q then a.eval x else a.eval y) = v) : (execOp a.eval o).run P w = .ok (.value v) w := by
  unfold execOp
  cases q <;> simp only [ho, hc] <;> simp only [if_true, Bool.false_eq_true, if_false] at hv <;> subst hv <;> go_simp
theorem gx_not {x : Operand} {t : TypeId} {q : Bool} (ho : o.op = .unOp .not t x) (hx : a.eval x = .bool q) : (execOp a.eval o).run P w = .ok (.value (.bool !q)) w := by
  unfold execOp
  simp only [ho, hx]
  go_simp
theorem gx_pickand {c : Operand} {y : Nat} {q z Wc Wy : Bool} (ho : o.op = .pick c (.tmp y) (.const (.bool false))) (hc : a.eval c = .bool q) (hy : a.tmps[y]? = some (giv Wy (.bool z))) (hWy : (Wc && (q == true)) = Wy) (hWc : Wc = true) : (execOp a.eval o).run P w = .ok (.value (.bool (q && z))) w := by
  subst hWc hWy
  refine gx_pick ho hc ?_
  rw [gv_ev hy]
  cases q <;> rfl
theorem gx_pickor {c : Operand} {y : Nat} {q z Wy : Bool} (ho : o.op = .pick c (.const (.bool true)) (.tmp y)) (hc : a.eval c = .bool q) (hy : a.tmps[y]? = some (giv Wy (.bool z))) (hWy : (true && (q == false)) = Wy) : (execOp a.eval o).run P w = .ok (.value (.bool (q || z))) w := by
  subst hWy
  refine gx_pick ho hc ?_
  rw [gv_ev hy]
  cases q <;> rfl
theorem gv_start (n : Nat) (hz : a.tmps.size = n) (hf : a.defers = []) (h : ∀ a' : Act, a'.tmps.size = n → a'.defers = [] → (∀ s : Nat, a'.tmps[s]? = a.tmps[s]?) → wpList P ops Q rest a' w) : wpList P ops Q rest a w := h a hz hf fun _ => rfl
end
end Go.Proofs.YtbmlpokkojhhjaaGreat
