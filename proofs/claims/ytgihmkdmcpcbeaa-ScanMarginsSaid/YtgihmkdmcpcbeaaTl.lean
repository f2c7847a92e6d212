/- Legs compared; ScanMargins, walked (by tl.py). -/
import Derived.Test.YtgihmkdmcpcbeaaTi
import Derived.Test.YtgihmkdmcpcbeaaQe
import Derived.Deep.RegionHeld
namespace Go.Proofs.Ytgihmkdmcpcbeaa
open Go.RowKit Go.Shelf
set_option linter.unusedVariables false
set_option linter.unusedSimpArgs false

def Lq.lits (x : Lq) : List Lit := x.sp.lits ++ [.int .i64 x.q]
theorem lits_lq10 (c : Lq) (h : c.ok) : Try.prog.keyLits 4 34 (EL.cells c) = some c.lits := by
  have h10 := wf_i64 h.q
  have hl := sp_lenL c.len
  have inner := lits_sp c.sp h.sp
  have t0 : (c.sp.cellL ++ [Value.int .i64 c.q]).take 25 = c.sp.cellL := by rw [← hl]; exact List.take_left' rfl
  have t1 : (c.sp.cellL ++ [Value.int .i64 c.q]).drop 25 = [.int .i64 c.q] := by rw [← hl]; exact List.drop_left' rfl
  have c25 : Try.prog.cellsOf 32 = 25 := by kernel_rfl
  have c2 : Try.prog.cellsOf 2 = 1 := by kernel_rfl
  have c27 : Try.prog.cellsOf 34 = 26 := by kernel_rfl
  have k2 : Try.prog.keyLits 3 2 [.int .i64 c.q] = some [.int .i64 c.q] := by simp [Program.keyLits, Try.underlying2, h10]
  unfold Program.keyLits
  show (match Try.prog.underlying 34 with | _ => _) = _
  unfold EL
  dsimp only
  unfold Lq.cells
  simp [Try.underlying34, c25, c2, t0, t1, inner, k2, hl, c27, Lq.lits]
theorem formed_lq10 (c : Lq) : (Value.agg (EL.cells c).toArray).formed Try.prog 34 = true := by
  have c27 : Try.prog.cellsOf 34 = 26 := by kernel_rfl
  have e : (EL.cells c).toArray.size = 26 := by rw [List.size_toArray]; exact EL.len c
  simp [Value.formed, Try.underlying34, c27]
  exact EL.len c
theorem key_lq10 : Try.prog.keyTypeAt 4 34 = true := by kernel_rfl
theorem guard_lq10 : Try.prog.eqGuardType Try.prog.depth 34 = false := by kernel_rfl
theorem same_lq10 (x : Lq) (hx : x.ok) (w : World) : (Op.equalIn 10000 34 (.agg (EL.cells x).toArray) (.agg (EL.cells x).toArray)).run Try.prog w = .ok true w := by
  have ex : (Value.agg (EL.cells x).toArray).cells.toList = EL.cells x := by simp [Value.cells]
  obtain ⟨r, h1, h2⟩ := run_equalIn_deep (P := Try.prog) 9996 4 34 key_lq10 w 4 4 (.agg (EL.cells x).toArray) (.agg (EL.cells x).toArray) x.lits x.lits (formed_lq10 x) (formed_lq10 x) (by rw [ex]; exact lits_lq10 x hx) (by rw [ex]; exact lits_lq10 x hx)
  rw [h2.2 rfl] at h1
  exact h1
theorem exec_neq10 {o : Oper} {a : Act} {x y : Operand} {t2 : TypeId} (ho : o.op = .binOp .neq 34 x y t2) {s : Lq} (ok : s.ok) (hx : a.eval x = .agg (EL.cells s).toArray) (hy : a.eval y = .agg (EL.cells s).toArray) (w : World) :
    (execOp a.eval o).run Try.prog w = .ok (.value (.bool false)) w := by
  unfold execOp
  simp only [ho, hx, hy, Sem.run_bind, run_eqGuard_agg w _ _ _ _ _ _ guard_lq10, Result.andThen_ok, run_neq_struct, same_lq10 s ok w, Sem.run_pure, Bool.not_true]
theorem yields_neq10 {ops : Array Oper} {S : World → Prop} {o : Oper} {a : Act} (hw : Region.wanted o (yielded ops a.tmps) = true) (x y : Operand) {t2 : TypeId} (ho : o.op = .binOp .neq 34 x y t2) {s : Lq} (ok : s.ok) (hx : a.eval x = .agg (EL.cells s).toArray) (hy : a.eval y = .agg (EL.cells s).toArray) :
    YieldsIf Try.prog ops S o (.bool false) a := .inl ⟨hw, fun w _ => exec_neq10 ho ok hx hy w⟩
set_option maxRecDepth 100000 in
set_option maxHeartbeats 8000000 in
theorem margins10_all (A : Option Addr) (n c : Nat) (l : List Lq) (w : World) (h : EL.Rd w A n l) (hok : ∀ x, x ∈ l → x.ok) (hn : n ≤ maxLen) (h0 : A = none → c = 0) :
    Calls Try.prog 4 #[.slice A n c] w fun e w' => e = .returned (.bool true) ∧ Below w.heap.size w w' := by
  have KN := Lib.hid fun (U : World) (qU : Below w.heap.size w U) => (known10 U).mono (fun e W h => (⟨h.1, qU.trans (h.2.mono qU.size)⟩ : e = .returned (.bool true) ∧ Below w.heap.size w W))
  have HR := Lib.hid fun (W : World) (q : Below w.heap.size w W) => (show EL.Rd W A n l from grd_below h q (Nat.le_refl _))
  have HK := Lib.hid hok
  have HL := Lib.hid h.1
  have H0 := Lib.hid h0
  have HN := Lib.hid hn
  unfold maxLen at hn
  by_cases c1 : 100 < n
  · have c1' : decide ((100 : Int) < (n : Int)) = true := decide_eq_true (by omega)
    clear h hok h0
    go_enter Try.func4, Try.ntmps4
    go_wp2_with fail
    refine (KN.out _ (Below.refl _ _)).mono ?_; rintro e w2 ⟨rfl, q2⟩
    have Q2 := Lib.hid q2
    clear q2
    go_wp2_with fail
    go_ret
    exact ⟨rfl, Q2.out⟩
  have c1' : decide ((100 : Int) < (n : Int)) = false := decide_eq_false (by omega)
  have O0 := Lib.hid (gown_new (E := EL) (te := 34) w)
  have B0 := Lib.hid (below_new w (.cells #[] 34))
  have R0 := Lib.hid (HR.out _ B0.out)
  clear h hok h0
  go_enter Try.func4, Try.ntmps4
  go_wp2_with (at_builtin; refine gpl_app TL rfl _ _ rfl w.heap.size _ [] rfl O0.out A n c l rfl R0.out H0.out (by simp; omega) (by simp) ?_; intro v' w' h1 h2 h3)
  rw [List.nil_append] at h1
  have B1 : Hid (Below w.heap.size w w') := Lib.hid (B0.out.grown h2 (by simp) (fun k e => (by cases e; exact Nat.le_refl _)))
  obtain ⟨A1, c1, rfl, n1⟩ := gown_form h1
  have hl0 : l.length = n := HL.out
  rw [hl0]
  have RI : Hid (EL.Rd w' A1 n l) := Lib.hid (by have := gown_rd h1; rwa [hl0] at this)
  have M1 := Lib.hid (margin10 A1 n c1 l w' RI.out HK.out HN.out)
  have RF := Lib.hid fun (W : World) (q : Below w.heap.size w W) => rmargin10 A n c l W (HR.out W q) HK.out HN.out
  have OW := Lib.hid h1
  generalize marN l = mn at *
  generalize marE l = me at *
  clear h1 h2 h3 hl0
  go_wp2_with fail
  refine M1.out.mono ?_; rintro e w2 ⟨rfl, q2⟩
  have B2 := Lib.hid (B1.out.trans (q2.mono B1.out.size))
  have RI2 := Lib.hid fun (W : World) (q : Below w2.heap.size w2 W) => (show EL.Rd W A1 n l from grd_below (grd_below RI.out q2 (Nat.le_refl _)) q (Nat.le_refl _))
  clear q2
  go_wp2_with fail
  refine (RF.out _ B2.out).mono ?_; rintro e w3 ⟨rfl, q3⟩
  have B3 := Lib.hid (B2.out.trans (q3.mono B2.out.size))
  have RI3 := Lib.hid fun (W : World) (q : Below w3.heap.size w3 W) => RI2.out W (q3.trans (q.mono q3.size))
  clear q3
  go_wp2_with fail
  go_loopw [28] (fun i wr => ∃ k : Nat, k ≤ n ∧ i = .int .i64 k ∧ Below w3.heap.size w3 wr) (fun i _ => n - (intOf i).toNat)
  case atStart => exact ⟨0, Nat.zero_le _, rfl, Below.refl _ _⟩
  case round =>
    obtain ⟨k, hk, rfl, hb⟩ := hrel
    have HB := Lib.hid hb
    clear hb
    by_cases hlt : k < n
    case neg =>
      obtain rfl : k = n := by omega
      go_wp2_with fail
      refine (KN.out _ (B3.out.trans (HB.out.mono B3.out.size))).mono ?_; rintro e w4 ⟨rfl, q4⟩
      have Q4 := Lib.hid q4
      clear q4
      go_wp2_with fail
      go_ret
      exact ⟨rfl, Q4.out⟩
    case pos =>
      have hdk : decide ((k : Int) < n) = true := decide_eq_true (by omega)
      have hki : (k : Int) < (n : Int) := by omega
      obtain ⟨x, hx⟩ : ∃ x, l[k]? = some x := ⟨l[k]'(by have := HL.out; omega), List.getElem?_eq_getElem _⟩
      have OK := Lib.hid (HK.out x (List.mem_of_getElem? hx))
      obtain ⟨b1, o1, rfl, rg1⟩ := grd_rng (RI3.out _ HB.out) hx
      obtain ⟨b2, o2, rfl, rg2⟩ := grd_rng (HR.out _ (B3.out.trans (HB.out.mono B3.out.size))) hx
      have L1 := Lib.hid fun (U : World) (q : Below wr.heap.size wr U) => (show U.rangeAt b1 (o1 + k * 26) (EL.cells x) from rng_below rg1 q (Nat.le_refl _))
      have L2 := Lib.hid fun (U : World) (q : Below wr.heap.size wr U) => (show U.rangeAt b2 (o2 + k * 26) (EL.cells x) from rng_below rg2 q (Nat.le_refl _))
      have h16 : (k : Int) < 9223372036854775807 := by omega
      clear hx rg1 rg2
      go_wp2_with fail
      refine wp_region_held_drew (S := fun U => Below wr.heap.size wr U) (by kernel_rfl) (Below.refl _ _).drew (fun hH => ?_)
      refine wpAnyH_take (i := 0) (v := .slice (some ⟨b1, o1, none⟩) n c1) rfl (by kernel_rfl) (by kernel_rfl) (by kernel_rfl) (fun _ _ _ h => h) (.inl ⟨by rfl, ?_⟩) (by assumption) ?_
      · intro W hW; go_simp
      try simp only [List.getElem_toArray, List.getElem_cons_zero, List.getElem_cons_succ, Act.put, List.setIfInBounds_toArray, List.set_cons_zero, List.set_cons_succ]
      refine wpAnyH_take (i := 1) (v := .int .i64 k) rfl (by kernel_rfl) (by kernel_rfl) (by kernel_rfl) (fun _ _ _ h => h) (.inl ⟨by rfl, ?_⟩) (by assumption) ?_
      · intro W hW; go_simp
      try simp only [List.getElem_toArray, List.getElem_cons_zero, List.getElem_cons_succ, Act.put, List.setIfInBounds_toArray, List.set_cons_zero, List.set_cons_succ]
      refine wpAnyH_take (i := 2) (v := .pointer (some ⟨b1, o1 + k * 26, none⟩)) rfl (by kernel_rfl) (by kernel_rfl) (by kernel_rfl) (fun _ _ _ h => h) (.inl ⟨by rfl, ?_⟩) (by assumption) ?_
      · intro W hW; go_simp
      try simp only [List.getElem_toArray, List.getElem_cons_zero, List.getElem_cons_succ, Act.put, List.setIfInBounds_toArray, List.set_cons_zero, List.set_cons_succ]
      refine wpAnyH_take (i := 3) (v := .agg (EL.cells x).toArray) rfl (by kernel_rfl) (by kernel_rfl) (by kernel_rfl) (fun _ _ _ h => h) (gyields_load TL (by rfl) (.tmp 33) rfl b1 (o1 + k * 26) rfl (fun U hU => L1.out U hU)) (by assumption) ?_
      try simp only [List.getElem_toArray, List.getElem_cons_zero, List.getElem_cons_succ, Act.put, List.setIfInBounds_toArray, List.set_cons_zero, List.set_cons_succ]
      refine wpAnyH_take (i := 4) (v := .slice (some ⟨b2, o2, none⟩) n c) rfl (by kernel_rfl) (by kernel_rfl) (by kernel_rfl) (fun _ _ _ h => h) (.inl ⟨by rfl, ?_⟩) (by assumption) ?_
      · intro W hW; go_simp
      try simp only [List.getElem_toArray, List.getElem_cons_zero, List.getElem_cons_succ, Act.put, List.setIfInBounds_toArray, List.set_cons_zero, List.set_cons_succ]
      refine wpAnyH_take (i := 5) (v := .int .i64 k) rfl (by kernel_rfl) (by kernel_rfl) (by kernel_rfl) (fun _ _ _ h => h) (.inl ⟨by rfl, ?_⟩) (by assumption) ?_
      · intro W hW; go_simp
      try simp only [List.getElem_toArray, List.getElem_cons_zero, List.getElem_cons_succ, Act.put, List.setIfInBounds_toArray, List.set_cons_zero, List.set_cons_succ]
      refine wpAnyH_take (i := 6) (v := .pointer (some ⟨b2, o2 + k * 26, none⟩)) rfl (by kernel_rfl) (by kernel_rfl) (by kernel_rfl) (fun _ _ _ h => h) (.inl ⟨by rfl, ?_⟩) (by assumption) ?_
      · intro W hW; go_simp
      try simp only [List.getElem_toArray, List.getElem_cons_zero, List.getElem_cons_succ, Act.put, List.setIfInBounds_toArray, List.set_cons_zero, List.set_cons_succ]
      refine wpAnyH_take (i := 7) (v := .agg (EL.cells x).toArray) rfl (by kernel_rfl) (by kernel_rfl) (by kernel_rfl) (fun _ _ _ h => h) (gyields_load TL (by rfl) (.tmp 37) rfl b2 (o2 + k * 26) rfl (fun U hU => L2.out U hU)) (by assumption) ?_
      try simp only [List.getElem_toArray, List.getElem_cons_zero, List.getElem_cons_succ, Act.put, List.setIfInBounds_toArray, List.set_cons_zero, List.set_cons_succ]
      refine wpAnyH_take (i := 8) (v := .bool false) rfl (by kernel_rfl) (by kernel_rfl) (by kernel_rfl) (fun _ _ _ h => h) (yields_neq10 (by rfl) (.tmp 34) (.tmp 38) rfl OK.out rfl rfl) (by assumption) ?_
      try simp only [List.getElem_toArray, List.getElem_cons_zero, List.getElem_cons_succ, Act.put, List.setIfInBounds_toArray, List.set_cons_zero, List.set_cons_succ]
      refine wpAnyH_done (by decide +kernel) ?_ _
      go_wp2_with fail
      go_roundw
      case rel => exact ⟨k + 1, hlt, by go_num, HB.out.trans (hH.mono HB.out.size)⟩
      case measure => simp [intOf]; omega
end Go.Proofs.Ytgihmkdmcpcbeaa
