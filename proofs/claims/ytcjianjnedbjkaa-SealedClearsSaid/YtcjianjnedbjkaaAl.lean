/- The program's sealed: Clear, whole; what the statements want of it. -/
import Derived.Test.YtcjianjnedbjkaaAk
namespace Go.Proofs.Ytcjianjnedbjkaa
open Go.RowKit Go.Shelf
set_option linter.unusedVariables false
set_option linter.unusedSimpArgs false

/-- What is asked of the program's auction. -/
def ClearK : Prop := ∀ (b : Bool) (q : Int) (A : Option Addr) (n c : Nat) (l : List Or) (w : World), EO.Rd w A n l → (∀ x, x ∈ l → x.ok) → (A = none → c = 0) → n ≤ maxLen → I64' q →
    Calls Try.prog 8 #[.bool b, .int .i64 q, .slice A n c] w fun e w' => ∃ v, e = .returned (.tuple #[.int .i64 (clrP b q l), v, .int .i64 (clrA b q l)]) ∧ EF.Own 36 w' w.heap.size v (clrF b q l) ∧ Below w.heap.size w w'
theorem clr_long {b : Bool} {q : Int} {l : List Or} (h : 50 < l.length) : clrA b q l = 3 ∧ clrP b q l = 0 ∧ clrF b q l = [] := by
  have hn : ¬ OkC b q l := fun k => by have := k.len; omega
  obtain ⟨_, h2, h3⟩ := clr_no hn
  refine ⟨?_, h2, h3⟩
  unfold clrA
  rw [if_pos h]
theorem clr_arg {b : Bool} {q : Int} {l : List Or} (h : ¬ 50 < l.length) (hn : ¬ OkC b q l) : clrA b q l = 2 ∧ clrP b q l = 0 ∧ clrF b q l = [] := by
  obtain ⟨_, h2, h3⟩ := clr_no hn
  refine ⟨?_, h2, h3⟩
  unfold clrA
  rw [if_neg h, if_neg hn]
theorem any_not {b : Bool} {l : List Or} : l.any (notC b) = false ↔ ∀ x, x ∈ l → mayO x = true ∧ x.bu = b := by
  rw [List.any_eq_false]
  refine forall_congr' fun x => forall_congr' fun _ => ?_
  unfold notC
  cases mayO x <;> cases x.bu <;> cases b <;> simp
theorem ok_iff {b : Bool} {q : Int} {l : List Or} (h : ¬ 50 < l.length) : OkC b q l ↔ 1 ≤ q ∧ q ≤ 10000000 ∧ l.any (notC b) = false ∧ Dis l := by
  rw [any_not]
  exact ⟨fun k => ⟨k.q1, k.q2, k.may, k.dis⟩, fun ⟨h1, h2, h3, h4⟩ => ⟨by omega, h1, h2, h3, h4⟩⟩
set_option maxRecDepth 100000 in
set_option maxHeartbeats 8000000 in
theorem clear_o8 : ClearK := by
  intro b q A n c l w h hok h0 hn hq
  obtain ⟨hq1, hq2⟩ := hq
  have hl := h.1
  obtain ⟨w1, hw1⟩ : ∃ w1, w.alloc (.cells #[.bool b] 4) = w1 := ⟨_, rfl⟩
  have b1 : Below w.heap.size w w1 := by rw [← hw1]; exact below_new w _
  have q1 : w1.cell? ⟨w.heap.size, 0, none⟩ = some (.bool b) := by rw [← hw1]; simp
  have B1 := Lib.hid b1
  have HW := Lib.hid hw1
  have Q1 := Lib.hid q1
  have HR := Lib.hid fun (W : World) (q : Below w1.heap.size w1 W) => (show EO.Rd W A n l from grd_below (grd_below h b1 (Nat.le_refl _)) q (Nat.le_refl _))
  have HK := Lib.hid hok
  have HL := Lib.hid hl
  have H0 := Lib.hid h0
  have S1 : Hid (w.heap.size ≤ w1.heap.size) := Lib.hid b1.size
  have OI := Lib.hid (ok_iff (b := b) (q := q) (l := l))
  unfold maxLen at hn
  clear h hok hw1 b1 q1 hl h0
  by_cases c1 : 50 < n
  · obtain ⟨e1, e2, e3⟩ := clr_long (b := b) (q := q) (l := l) (by rw [HL.out]; exact c1)
    rw [e1, e2, e3]
    clear e1 e2 e3
    have c1' : decide ((50 : Int) < (n : Int)) = true := decide_eq_true (by omega)
    go_enter Try.func8, Try.ntmps8
    go_wp2_with (rw [HW.out])
    go_ret3
    exact ⟨_, rfl, gown_nil _ _, B1.out⟩
  have c1' : decide ((50 : Int) < (n : Int)) = false := decide_eq_false (by omega)
  have c1l : ¬ 50 < l.length := by rw [HL.out]; exact c1
  have NO : Hid (¬ OkC b q l → ∀ w' : World, Below w.heap.size w w' → ∃ v, (Ending.returned (.tuple #[.int .i64 0, .slice none 0 0, .int .i64 2]) = .returned (.tuple #[.int .i64 (clrP b q l), v, .int .i64 (clrA b q l)])) ∧ EF.Own 36 w' w.heap.size v (clrF b q l) ∧ Below w.heap.size w w') := Lib.hid fun hn w' q => by
    obtain ⟨e1, e2, e3⟩ := clr_arg c1l hn
    rw [e1, e2, e3]
    exact ⟨_, rfl, gown_nil _ _, q⟩
  have C1L := Lib.hid c1l
  have C1 := Lib.hid c1
  clear c1 c1l
  by_cases c2 : q < 1
  · have nk : Hid (¬ OkC b q l) := Lib.hid fun k => by have := k.q1; omega
    have c2' : decide (q < 1) = true := decide_eq_true c2
    go_enter Try.func8, Try.ntmps8
    go_wp2_with (rw [HW.out])
    go_ret3
    exact NO.out nk.out _ B1.out
  have c2' : decide (q < 1) = false := decide_eq_false c2
  by_cases c3 : 10000000 < q
  · have nk : Hid (¬ OkC b q l) := Lib.hid fun k => by have := k.q2; omega
    have c3' : decide (10000000 < q) = true := decide_eq_true c3
    go_enter Try.func8, Try.ntmps8
    go_wp2_with (rw [HW.out])
    go_ret3
    exact NO.out nk.out _ B1.out
  have c3' : decide (10000000 < q) = false := decide_eq_false c3
  have eg : ∀ args w, (callFunc 11 args).run Try.prog w = .ok (.enter 11 args) w := fun args w => by go_simp
  have CO := Lib.hid (contains_o8 11 #[.pointer (some ⟨w.heap.size, 0, none⟩)] (notC b) A n c l w1 eg (not_o8 b _ w1 Q1.out) (HR.out w1 (Below.refl _ _)) HK.out (by have := C1.out; omega))
  clear eg
  obtain ⟨t, ht⟩ : ∃ t, l.any (notC b) = t := ⟨_, rfl⟩
  rw [ht] at CO
  have HT := Lib.hid ht
  clear ht
  cases t
  case true =>
    have nk : Hid (¬ OkC b q l) := Lib.hid fun k => by
      have := ((OI.out C1L.out).1 k).2.2.1
      rw [HT.out] at this; cases this
    go_enter Try.func8, Try.ntmps8
    go_wp2_with (rw [HW.out])
    refine CO.out.mono ?_; rintro e w2 ⟨rfl, q2⟩
    have Q2 := Lib.hid q2
    clear q2
    go_wp2_with fail
    go_ret3
    exact NO.out nk.out _ (B1.out.trans (Q2.out.mono B1.out.size))
  case false =>
    go_enter Try.func8, Try.ntmps8
    go_wp2_with (rw [HW.out])
    refine CO.out.mono ?_; rintro e w2 ⟨rfl, q2⟩
    have Q2 := Lib.hid q2
    have TW := Lib.hid (twice_o8 A n c l w2 (HR.out w2 q2) HK.out (by have := C1.out; omega))
    clear q2
    go_wp2_with fail
    refine TW.out.mono ?_; rintro e w3 ⟨t, rfl, tt, q3⟩
    have TT := Lib.hid tt
    have Q3 := Lib.hid (Q2.out.trans (q3.mono Q2.out.size))
    clear tt q3
    cases t
    case true =>
      have nk : Hid (¬ OkC b q l) := Lib.hid fun k => (TT.out.1 rfl) k.dis
      go_wp2_with fail
      go_ret3
      exact NO.out nk.out _ (B1.out.trans (Q3.out.mono B1.out.size))
    case false =>
      have dis : Dis l := Classical.byContradiction fun c => by have := TT.out.2 c; cases this
      have OK := Lib.hid ((OI.out C1L.out).2 ⟨by omega, by omega, HT.out, dis⟩)
      have SO := Lib.hid (sorted_o8 b A n c l w3 (HR.out w3 Q3.out) (by have := C1.out; omega) H0.out)
      have k3 := cell_below Q1.out Q3.out (Nat.le_refl _)
      clear dis
      go_wp2_with fail
      refine SO.out.mono ?_; rintro e w4 ⟨v, rfl, o4, q4⟩
      obtain ⟨A4, c4, rfl, n4⟩ := gown_form o4
      have R4 := Lib.hid (gown_rd o4)
      have Q4 := Lib.hid (Q3.out.trans (q4.mono Q3.out.size))
      have FI := Lib.hid (fill_o8 A4 (sortO b l).length c4 (sortO b l) q w4 R4.out (fun x hx => by have := may_pos (OK.out.may x (sort_mem.1 hx)).1; omega) (by rw [sort_len]; have := C1L.out; omega) ⟨by omega, by omega⟩)
      obtain ⟨f1, f2⟩ := fill_clr OK.out
      rw [f1, f2] at FI
      have E0 : Hid (clrA b q l = 0) := Lib.hid (clr_ok OK.out).1
      clear o4 q4 f1 f2 n4 k3
      go_wp2_with fail
      refine FI.out.mono ?_; rintro e w5 ⟨v, rfl, o5, q5⟩
      have O5 := Lib.hid o5
      have Q5 := Lib.hid (Q4.out.trans (q5.mono Q4.out.size))
      have Z4 := Lib.hid (Q4.out.size)
      clear o5 q5
      go_wp2_with fail
      go_ret3
      exact ⟨_, by rw [E0.out]; rfl, gown_low O5.out (Nat.le_trans S1.out Z4.out), B1.out.trans (Q5.out.mono B1.out.size)⟩
end Go.Proofs.Ytcjianjnedbjkaa
