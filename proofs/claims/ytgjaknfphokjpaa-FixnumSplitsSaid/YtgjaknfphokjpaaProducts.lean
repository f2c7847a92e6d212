/- Contracts of the document's plain answers for products and quotients, and the walk of the statement FixnumProducts: it returns true for every three int64 numbers. -/
import Derived.Test.YtgjaknfphokjpaaOver
namespace Go.Proofs.Ytgjaknfphokjpaa
open Go.RowKit

theorem prod12 {N : Int} (h : N ≤ 85070591730234615865843651857942052864) : N + 1 < Rf.T 12 := by
  have : (85070591730234615865843651857942052866 : Int) < Rf.T 12 := by decide
  omega
theorem mag12 {N : Int} (h : N ≤ 9223372036854775808) : N < Rf.T 12 ∧ 2 * N < Rf.T 12 := by
  have := T12
  omega

set_option maxHeartbeats 400000 in
theorem refmul_any (a b : Int) (ha : I64 a) (hb : I64 b) (w : World) :
    Calls Try.prog 25 #[.int .i64 a, .int .i64 b] w fun e w' => e = .returned (.tuple #[.int .i64 (tN (a * b)), .int .i64 (tE (a * b))]) ∧ Quiet w w' := by
  have m1 := mag_bd a ha
  have p := prod_bd ha hb
  have O1 := Lib.hid (fun W => of_any a ha W)
  have O2 := Lib.hid (fun W => of_any b hb W)
  have X := Lib.hid (fun W => times_any (decide (a < 0)) (decide (b < 0)) (mag a) (mag b) m1.1 (mag12 m1.2).1 W)
  have T := Lib.hid (fun W => told_any (ng a b) (mag a * mag b) p.1 (by have := prod12 p.2; omega) W)
  rw [sgn_mul] at T
  clear m1 p ha hb
  go_enter Try.func25, Try.ntmps25
  go_wp2_with fail
  refine (O1.out _).mono ?_; rintro e w1 ⟨rfl, q1⟩
  go_wp2_with fail
  refine (O2.out _).mono ?_; rintro e w2 ⟨rfl, q2⟩
  go_wp2_with fail
  refine (X.out _).mono ?_; rintro e w3 ⟨rfl, q3⟩
  rw [ng_eq]
  go_wp2_with fail
  refine (T.out _).mono ?_; rintro e w4 ⟨rfl, q4⟩
  go_wp2_with fail
  go_ret2
  exact ⟨rfl, q1.trans (q2.trans (q3.trans q4))⟩

set_option maxHeartbeats 400000 in
theorem refmd_zero (a b : Int) (w : World) :
    Calls Try.prog 26 #[.int .i64 a, .int .i64 b, .int .i64 0] w fun e w' => e = .returned (.tuple #[.int .i64 0, .int .i64 10]) ∧ Quiet w w' := by
  go_enter Try.func26, Try.ntmps26
  go_wp2_with fail
  go_ret2
  exact ⟨rfl, Quiet.refl w⟩

set_option maxHeartbeats 1000000 in
theorem refmd_any (a b c : Int) (ha : I64 a) (hb : I64 b) (hc : I64 c) (h0 : c ≠ 0) (w : World) :
    Calls Try.prog 26 #[.int .i64 a, .int .i64 b, .int .i64 c] w fun e w' => e = .returned (.tuple #[.int .i64 (tN (fl (a * b) c)), .int .i64 (tE (fl (a * b) c))]) ∧ Quiet w w' := by
  have m1 := mag_bd a ha
  have m3 := mag_bd c hc
  have p := prod_bd ha hb
  have O1 := Lib.hid (fun W => of_any a ha W)
  have O2 := Lib.hid (fun W => of_any b hb W)
  have O3 := Lib.hid (fun W => of_any c hc W)
  have X := Lib.hid (fun W => times_any (decide (a < 0)) (decide (b < 0)) (mag a) (mag b) m1.1 (mag12 m1.2).1 W)
  have V := Lib.hid (fun W => over_any (ng a b) (decide (c < 0)) (mag a * mag b) (mag c) p.1 (prod12 p.2) (mag_pos h0) (mag12 m3.2).2 W)
  have F := Lib.hid (fl_eq a b c)
  have B := Lib.hid (prod12 p.2)
  have c0 : (c == 0) = false := by simpa using h0
  clear m1 m3 p ha hb hc h0
  go_enter Try.func26, Try.ntmps26
  go_wp2_with fail
  refine (O1.out _).mono ?_; rintro e w1 ⟨rfl, q1⟩
  go_wp2_with fail
  refine (O2.out _).mono ?_; rintro e w2 ⟨rfl, q2⟩
  go_wp2_with fail
  refine (X.out _).mono ?_; rintro e w3 ⟨rfl, q3⟩
  rw [ng_eq]
  go_wp2_with fail
  refine (O3.out _).mono ?_; rintro e w4 ⟨rfl, q4⟩
  go_wp2_with fail
  refine (V.out _).mono ?_; rintro e w5 ⟨⟨u, M, R, rfl, n0, n1, hx, -⟩, q5⟩
  have T := Lib.hid (fun W => told_any u M n0 (by have := B.out; omega) W)
  rw [hx, show sgn (!ng a b == decide (c < 0)) (mag a * mag b) / mag c = fl (a * b) c from F.out.symm] at T
  clear hx n0 n1
  have HQ := Lib.hid (q1.trans (q2.trans (q3.trans (q4.trans q5))))
  clear q1 q2 q3 q4 q5
  have ra := Lib.hid ((Row.new w5 42 (nm false fun _ => 0)).alloc (.cells (nm false fun _ => 0) 42))
  have rb := Lib.hid ((Row.at_ (k := w5.heap.size + 1) (w5.alloc (.cells (nm false fun _ => 0) 42)) 42 (nm false fun _ => 0) (by simp)).apart (g' := w5.heap.size) (by omega) (nm u (dgs M)))
  have rc := Lib.hid ((ra.out.whole (nm u (dgs M))).apart (g' := w5.heap.size + 1) (by omega) (nm false (dgs R)))
  have QF := Lib.hid (((((Quiet.refl w5).alloc (nm false fun _ => 0) 42).alloc (nm false fun _ => 0) 42).setRow ra.out (Nat.le_refl _) (nm u (dgs M))).setRow rb.out (by omega) (nm false (dgs R)))
  go_wp2_with (first
    | ((with_reducible refine wl_store_nm w5.heap.size u false (dgs M) (fun _ => 0) ?_ ?_ ?_ ?_); rfl; rfl; exact ra.out)
    | ((with_reducible refine wl_store_nm (w5.heap.size + 1) false false (dgs R) (fun _ => 0) ?_ ?_ ?_ ?_); rfl; rfl; exact rb.out)
    | ((with_reducible refine wl_load_nm w5.heap.size u (dgs M) ?_ ?_ ?_); rfl; exact rc.out)
    | (go_at_call 31; refine (T.out _).mono ?_; rintro e w6 ⟨rfl, q6⟩))
  go_ret2
  exact ⟨rfl, HQ.out.trans (QF.out.trans q6)⟩

set_option maxHeartbeats 1000000 in
theorem walk_products (a b c : Int) (ha : I64 a) (hb : I64 b) (hc : I64 c) (w : World) :
    Calls Try.prog 5 #[.int .i64 a, .int .i64 b, .int .i64 c] w fun e w' => e = .returned (.bool true) ∧ Quiet w w' := by
  have M := Lib.hid (fun W => mul_any a b ha hb W)
  have RM := Lib.hid (fun W => refmul_any a b ha hb W)
  by_cases h0 : c = 0
  · subst h0
    have D := Lib.hid (fun W => muldiv_zero a b W)
    have RD := Lib.hid (fun W => refmd_zero a b W)
    clear ha hb hc
    go_enter Try.func5, Try.ntmps5
    go_wp2_with fail
    refine (M.out _).mono ?_; rintro e w' ⟨rfl, rfl⟩
    go_wp2_with fail
    refine (D.out _).mono ?_; rintro e w' ⟨rfl, rfl⟩
    go_wp2_with fail
    refine (RM.out _).mono ?_; rintro e w1 ⟨rfl, q1⟩
    go_wp2_with fail
    refine (RD.out _).mono ?_; rintro e w2 ⟨rfl, q2⟩
    go_wp2_with fail
    refine (known_any _).mono ?_; rintro e w3 ⟨rfl, q3⟩
    go_wp2_with fail
    go_ret
    exact ⟨rfl, q1.trans (q2.trans q3)⟩
  · have D := Lib.hid (fun W => muldiv_any a b c ha hb hc h0 W)
    have RD := Lib.hid (fun W => refmd_any a b c ha hb hc h0 W)
    clear ha hb hc h0
    go_enter Try.func5, Try.ntmps5
    go_wp2_with fail
    refine (M.out _).mono ?_; rintro e w' ⟨rfl, rfl⟩
    go_wp2_with fail
    refine (D.out _).mono ?_; rintro e w' ⟨rfl, n, rfl⟩
    go_wp2_with fail
    refine (RM.out _).mono ?_; rintro e w1 ⟨rfl, q1⟩
    go_wp2_with fail
    refine (RD.out _).mono ?_; rintro e w2 ⟨rfl, q2⟩
    go_wp2_with fail
    refine (known_any _).mono ?_; rintro e w3 ⟨rfl, q3⟩
    go_wp2_with fail
    go_ret
    exact ⟨rfl, ((Quiet.refl w).drewN n).trans (q1.trans (q2.trans q3))⟩
end Go.Proofs.Ytgjaknfphokjpaa
