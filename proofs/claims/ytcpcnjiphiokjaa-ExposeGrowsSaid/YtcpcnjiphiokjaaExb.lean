/- Whether a stake may be: the program's. -/
import Derived.Test.YtcpcnjiphiokjaaExi
import Derived.Test.YtcpcnjiphiokjaaExp
import Derived.Test.YtcpcnjiphiokjaaTd
import Derived.Test.YtcpcnjiphiokjaaAa
namespace Go.Proofs.Ytcpcnjiphiokjaa
open Go.RowKit Go.Shelf
set_option linter.unusedVariables false
set_option linter.unusedSimpArgs false

section
variable {w W : World} {g : Nat} {x : Sk} {te : TypeId}
theorem kq_at {o : Nat} (h : w.rangeAt g o (EK.cells x)) {j : Nat} {v : Value} (hj : (EK.cells x)[j]? = some v) : w.cell? ⟨g, o + j, none⟩ = some v := h j v hj
theorem kq_lg {o : Nat} (h : w.rangeAt g o (EK.cells x)) : w.rangeAt g o (EL.cells x.lg) := fun j v hj => by
  have hl := (List.getElem?_eq_some_iff.1 hj).1
  rw [EL.len] at hl
  exact h j v (by rw [sk_lg hl, hj])
theorem bk_rng (h : EK.Bx te w g x) : w.rangeAt g 0 (EK.cells x) := gbx_rng h
theorem bk_lg (h : EK.Bx te w g x) : w.rangeAt g 0 (EL.cells x.lg) := kq_lg (bk_rng h)
theorem bk_sp (h : EK.Bx te w g x) : w.rangeAt g 0 x.lg.sp.cellL := rq_sp (bk_lg h)
theorem bk_arr (h : EK.Bx te w g x) : w.rangeAt g 6 (x.lg.sp.sh.map (Value.int .i64)) := by have := rq_arr (bk_lg h); rwa [Nat.zero_add] at this
theorem bk_q (h : EK.Bx te w g x) : w.cell? ⟨g, 25, none⟩ = some (.int .i64 x.lg.q) := by have := rq_q (bk_lg h); rwa [Nat.zero_add] at this
theorem bk_ba (h : EK.Bx te w g x) : w.cell? ⟨g, 26, none⟩ = some (.int .i64 x.ba) := by have := kq_at (bk_rng h) (sk_ba x); rwa [Nat.zero_add] at this
theorem bk_pr (h : EK.Bx te w g x) : w.cell? ⟨g, 27, none⟩ = some (.int .i64 x.pr) := by have := kq_at (bk_rng h) (sk_pr x); rwa [Nat.zero_add] at this
theorem bk_os (h : EK.Bx te w g x) : w.cell? ⟨g, 28, none⟩ = some (.slice x.A x.n x.c) := by have := kq_at (bk_rng h) (sk_os x); rwa [Nat.zero_add] at this
end
/-- An order that may not be. -/
def notO (o : Or) : Bool := !mayO o
theorem any_notO (l : List Or) : l.any notO = !l.all mayO := by
  induction l with
  | nil => rfl
  | cons x r ih => rw [List.any_cons, List.all_cons, ih, notO]; cases mayO x <;> rfl
set_option maxRecDepth 100000 in
theorem not_o11 (w : World) : GTests Try.prog EO Or.ok 32 #[] notO w := by
  intro W x q ok
  show Calls Try.prog 32 #[.agg (EO.cells x).toArray] W _
  obtain ⟨W1, hW1⟩ : ∃ W1, W.alloc (.cells (EO.cells x).toArray 41) = W1 := ⟨_, rfl⟩
  have x1 : EO.Bx 41 W1 W.heap.size x := by rw [← hW1]; exact gbx_new W x
  have b1 : Below W.heap.size W W1 := by rw [← hW1]; exact below_new W _
  have X1 := Lib.hid (gbx_rng x1)
  have B1 := Lib.hid b1
  have HW := Lib.hid hW1
  have MAY := Lib.hid (smay8_any x W1 ok)
  unfold notO
  clear x1 b1 hW1 ok q
  generalize mayO x = xm at *
  go_enter Try.func32, Try.ntmps32
  go_wp2_with (first | (rw [HW.out]) | ((with_reducible refine gwl_load TO W.heap.size 0 X1.out ?_ ?_ ?_); rfl; rfl))
  refine MAY.out.mono ?_; rintro e w2 ⟨rfl, q2⟩
  have Q2 := Lib.hid q2
  clear q2
  go_wp2_with fail
  go_ret
  exact ⟨rfl, B1.out.trans (Q2.out.mono B1.out.size)⟩
set_option maxRecDepth 100000 in
set_option maxHeartbeats 2000000 in
theorem may11 (x : Sk) (w : World) (ok : x.ok) (hin : x.In w) : Calls Try.prog 17 #[.agg (EK.cells x).toArray] w fun e w' => e = .returned (.bool (stkB x)) ∧ Below w.heap.size w w' := by
  have eg : ∀ args w, (callFunc 32 args).run Try.prog w = .ok (.enter 32 args) w := fun args w => by go_simp
  obtain ⟨W1, hW1⟩ : ∃ W1, w.alloc (.cells (EK.cells x).toArray 33) = W1 := ⟨_, rfl⟩
  have x1 : EK.Bx 33 W1 w.heap.size x := by rw [← hW1]; exact gbx_new w x
  have b1 : Below w.heap.size w W1 := by rw [← hW1]; exact below_new w _
  have i1 : x.In W1 := grd_below hin b1 (Nat.le_refl _)
  have HN := Lib.hid hin.1
  have HX := Lib.hid x1
  have HQ := Lib.hid fun (w2 : World) (q : Below W1.heap.size W1 w2) => (show w2.cell? ⟨w.heap.size, 25, none⟩ = some (.int .i64 x.lg.q) from bk_q (gbx_below x1 q))
  have HBa := Lib.hid fun (w2 : World) (q : Below W1.heap.size W1 w2) => (show w2.cell? ⟨w.heap.size, 26, none⟩ = some (.int .i64 x.ba) from bk_ba (gbx_below x1 q))
  have HO := Lib.hid fun (w2 : World) (q : Below W1.heap.size W1 w2) => (show w2.cell? ⟨w.heap.size, 28, none⟩ = some (.slice x.A x.n x.c) from bk_os (gbx_below x1 q))
  have SPX := Lib.hid (bk_sp x1)
  have k27 := bk_pr x1
  have B1 := Lib.hid b1
  have HW := Lib.hid hW1
  have PR := Lib.hid (pisprice_any x.lg.sp x.pr W1 ok.lg.sp)
  have W1' := Lib.hid (fun W => pwithin_any x.lg.q 10000000 ok.lg.q (by unfold I64; omega) W)
  have W2' := Lib.hid (fun W => pwithin_any x.ba 1000000000000000 ok.ba (by unfold I64; omega) W)
  rw [within_m (by omega)] at W1' W2'
  have CO := Lib.hid (fun (w2 : World) (q : Below W1.heap.size W1 w2) (hn : x.n ≤ 1000) => contains_o8 _ #[] notO x.A x.n x.c x.os w2 eg (not_o11 w2) (grd_below i1 q (Nat.le_refl _)) ok.os hn)
  rw [any_notO] at CO
  have E : Hid (stkB x = (priceB x.lg.sp x.pr && amB x.lg.q (-10000000) 10000000 && amB x.ba (-1000000000000000) 1000000000000000 && decide ((x.n : Int) ≤ 250) && x.os.all mayO)) := Lib.hid (by
    unfold stkB
    rw [show decide (x.os.length ≤ 250) = decide ((x.n : Int) ≤ 250) from decide_eq_decide.2 (by rw [hin.1]; omega)])
  have L := Lib.hid x.lg.len
  rw [E.out]
  clear x1 b1 hW1 E ok hin i1 eg
  generalize hpb : priceB x.lg.sp x.pr = pb at *
  generalize amB x.lg.q (-10000000) 10000000 = qb at *
  generalize amB x.ba (-1000000000000000) 1000000000000000 = ab at *
  generalize x.os.all mayO = ob at *
  clear hpb
  go_enter Try.func17, Try.ntmps17
  go_wp2_with (first | (rw [HW.out]) | ((with_reducible refine wl_sp10 L.out w.heap.size 0 SPX.out ?_ ?_ ?_); rfl; rfl))
  refine PR.out.mono ?_; rintro e w2 ⟨rfl, q2⟩
  have c25 := HQ.out w2 q2
  have Q2 := Lib.hid q2
  clear q2 k27
  cases pb
  · go_wp2_with fail
    go_ret
    exact ⟨rfl, B1.out.trans (Q2.out.mono B1.out.size)⟩
  have c26 := HBa.out w2 Q2.out
  have c28 := HO.out w2 Q2.out
  go_wp2_with fail
  refine (W1'.out _).mono ?_; rintro e w3 ⟨rfl, rfl⟩
  cases qb
  · go_wp2_with fail
    go_ret
    exact ⟨rfl, B1.out.trans (Q2.out.mono B1.out.size)⟩
  go_wp2_with fail
  refine (W2'.out _).mono ?_; rintro e w3 ⟨rfl, rfl⟩
  cases ab
  · go_wp2_with fail
    go_ret
    exact ⟨rfl, B1.out.trans (Q2.out.mono B1.out.size)⟩
  by_cases hn : x.n ≤ 250
  · have hd : decide ((x.n : Int) ≤ 250) = true := decide_eq_true (by omega)
    have C := Lib.hid (CO.out w2 Q2.out (by omega))
    go_wp2_with fail
    refine C.out.mono ?_; rintro e w3 ⟨rfl, q3⟩
    have Q3 := Lib.hid q3
    clear q3
    go_wp2_with fail
    go_ret
    exact ⟨by rw [hd]; cases ob <;> rfl, B1.out.trans ((Q2.out.trans (Q3.out.mono Q2.out.size)).mono B1.out.size)⟩
  · have hd : decide ((x.n : Int) ≤ 250) = false := decide_eq_false (by omega)
    go_wp2_with fail
    go_ret
    exact ⟨by rw [hd]; rfl, B1.out.trans (Q2.out.mono B1.out.size)⟩
/-- A stake that may not be. -/
def notK (x : Sk) : Bool := !stkB x
theorem any_notK (l : List Sk) : l.any notK = !l.all stkB := by
  induction l with
  | nil => rfl
  | cons x r ih => rw [List.any_cons, List.all_cons, ih, notK]; cases stkB x <;> rfl
set_option maxRecDepth 100000 in
theorem not_k11 (w : World) : GTests Try.prog EK (fun x => x.ok ∧ x.In w) 16 #[] notK w := by
  intro W x q ⟨ok, hin⟩
  show Calls Try.prog 16 #[.agg (EK.cells x).toArray] W _
  obtain ⟨W1, hW1⟩ : ∃ W1, W.alloc (.cells (EK.cells x).toArray 33) = W1 := ⟨_, rfl⟩
  have x1 : EK.Bx 33 W1 W.heap.size x := by rw [← hW1]; exact gbx_new W x
  have b1 : Below W.heap.size W W1 := by rw [← hW1]; exact below_new W _
  have X1 := Lib.hid (gbx_rng x1)
  have B1 := Lib.hid b1
  have HW := Lib.hid hW1
  have MAY := Lib.hid (may11 x W1 ok (grd_below (grd_below hin q (Nat.le_refl _)) b1 (Nat.le_refl _)))
  unfold notK
  clear x1 b1 hW1 ok q hin
  generalize stkB x = xm at *
  go_enter Try.func16, Try.ntmps16
  go_wp2_with (first | (rw [HW.out]) | ((with_reducible refine gwl_load TK W.heap.size 0 X1.out ?_ ?_ ?_); rfl; rfl))
  refine MAY.out.mono ?_; rintro e w2 ⟨rfl, q2⟩
  have Q2 := Lib.hid q2
  clear q2
  go_wp2_with fail
  go_ret
  exact ⟨rfl, B1.out.trans (Q2.out.mono B1.out.size)⟩
theorem contk11 (A : Option Addr) (n c : Nat) (l : List Sk) (w : World) (hr : EK.Rd w A n l) (hok : ∀ x, x ∈ l → x.ok ∧ x.In w) (hn : n ≤ 1000) :
    Calls Try.prog 18 #[.slice A n c, .func (.func 16) #[] #[]] w fun e w' => e = .returned (.bool (!l.all stkB)) ∧ Below w.heap.size w w' := by
  have := contains_k11 16 #[] notK A n c l w (fun args w => by go_simp) (not_k11 w) hr hok hn
  rwa [any_notK] at this
end Go.Proofs.Ytcpcnjiphiokjaa
