/- The program's side: the closures; find, place, first, behind, at. -/
import Derived.Test.YtpnccbcaoifdiaaJe
namespace Go.Proofs.Ytpnccbcaoifdiaa
open Go.RowKit Go.Shelf
set_option linter.unusedVariables false

def nuIs (n : Int) (x : St) : Bool := x.o.nu == n
def worse (buy : Bool) (p : Int) (x : St) : Bool := btr buy p x.o.pr
set_option maxRecDepth 100000 in
theorem fclo_any (x : St) (nb : Nat) (n : Int) (w : World) (h : w.cell? ⟨nb, 0, none⟩ = some (.int .u64 n)) : Calls Try.prog 48 #[.agg (ESt.cells x).toArray, .pointer (some ⟨nb, 0, none⟩)] w fun e w' => e = .returned (.bool (nuIs n x)) ∧ Below w.heap.size w w' := by
  obtain ⟨w1, hw1⟩ : ∃ w1, w.alloc (.cells (ESt.cells x).toArray 66) = w1 := ⟨_, rfl⟩
  have b1 : Below w.heap.size w w1 := hw1 ▸ below_new w _
  have x1 : ESt.Bx 66 w1 w.heap.size x := hw1 ▸ gbx_new w x
  have p1 : w1.cell? ⟨w.heap.size, 0, none⟩ = some (.int .u64 x.o.nu) := gbx_cell x1 0
  have q1 := cell_below h b1 (Nat.le_refl _)
  have B := Lib.hid b1
  have HW1 := Lib.hid hw1
  clear h hw1 b1 x1
  go_enter Try.func48, Try.ntmps48
  go_wp2_with (simp only [HW1.out])
  go_ret
  exact ⟨rfl, B.out⟩
set_option maxRecDepth 100000 in
theorem pclo_any (buy : Bool) (g : Nat) (x : St) (sb pb : Nat) (p : Int) (w : World) (hs : w.cell? ⟨sb, 0, none⟩ = some (.pointer (some ⟨g, 0, none⟩))) (hp : w.cell? ⟨pb, 0, none⟩ = some (.int .i64 p)) (hb : w.cell? ⟨g, 1, none⟩ = some (.bool buy)) :
    Calls Try.prog 51 #[.agg (ESt.cells x).toArray, .pointer (some ⟨sb, 0, none⟩), .pointer (some ⟨pb, 0, none⟩)] w fun e w' => e = .returned (.bool (worse buy p x)) ∧ Below w.heap.size w w' := by
  obtain ⟨w1, hw1⟩ : ∃ w1, w.alloc (.cells (ESt.cells x).toArray 66) = w1 := ⟨_, rfl⟩
  have b1 : Below w.heap.size w w1 := hw1 ▸ below_new w _
  have x1 : ESt.Bx 66 w1 w.heap.size x := hw1 ▸ gbx_new w x
  have p1 : w1.cell? ⟨w.heap.size, 3, none⟩ = some (.int .i64 x.o.pr) := gbx_cell x1 3
  have q1 := cell_below hs b1 (Nat.le_refl _)
  have q2 := cell_below hp b1 (Nat.le_refl _)
  have C := bet_any buy g p x.o.pr w1 (cell_below hb b1 (Nat.le_refl _))
  have B := Lib.hid b1
  have HW1 := Lib.hid hw1
  clear hs hp hb hw1 b1 x1
  go_enter Try.func51, Try.ntmps51
  go_wp2_with (simp only [HW1.out])
  refine C.mono ?_; rintro e w3 ⟨rfl, rfl⟩
  go_wp2_with fail
  go_ret
  exact ⟨rfl, B.out⟩
set_option maxRecDepth 100000 in
set_option maxHeartbeats 1000000 in
theorem bclo_any (buy : Bool) (g : Nat) (a x : St) (sb ab : Nat) (w : World) (hs : w.cell? ⟨sb, 0, none⟩ = some (.pointer (some ⟨g, 0, none⟩))) (ha : ESt.Bx 66 w ab a) (hb : w.cell? ⟨g, 1, none⟩ = some (.bool buy)) :
    Calls Try.prog 53 #[.agg (ESt.cells x).toArray, .pointer (some ⟨sb, 0, none⟩), .pointer (some ⟨ab, 0, none⟩)] w fun e w' => e = .returned (.bool (ahB buy a x)) ∧ Below w.heap.size w w' := by
  obtain ⟨w1, hw1⟩ : ∃ w1, w.alloc (.cells (ESt.cells x).toArray 66) = w1 := ⟨_, rfl⟩
  have b1 : Below w.heap.size w w1 := hw1 ▸ below_new w _
  have x1 : ESt.Bx 66 w1 w.heap.size x := hw1 ▸ gbx_new w x
  have RX := Lib.hid (gbx_rng x1)
  have RA := Lib.hid (gbx_rng (gbx_below ha b1))
  have q1 := cell_below hs b1 (Nat.le_refl _)
  have C := ahead_any buy g a x w1 (cell_below hb b1 (Nat.le_refl _))
  have B := Lib.hid b1
  have HW1 := Lib.hid hw1
  clear hs ha hb hw1 b1 x1
  go_enter Try.func53, Try.ntmps53
  go_wp2_with (first | (simp only [HW1.out]) | ((with_reducible refine gwl_load TSt ab 0 RA.out ?_ ?_ ?_); rfl; rfl) | ((with_reducible refine gwl_load TSt w.heap.size 0 RX.out ?_ ?_ ?_); rfl; rfl))
  refine C.mono ?_; rintro e w3 ⟨rfl, q⟩
  have Q := Lib.hid (B.out.trans (q.mono B.out.size))
  clear q
  go_wp2_with fail
  go_ret
  exact ⟨rfl, Q.out⟩
section
variable {g : Nat} {v : Value} {buy : Bool} {c : Int} {l : List St} {w : World}
set_option maxRecDepth 100000 in
set_option maxHeartbeats 1000000 in
theorem sfind_any (n : Int) (h : Ds w g v buy c l) : Calls Try.prog 32 #[.pointer (some ⟨g, 0, none⟩), .int .u64 n] w fun e w' => e = .returned (.int .i64 (gidx (nuIs n) l)) ∧ Below w.heap.size w w' := by
  obtain ⟨w1, hw1⟩ : ∃ w1, w.alloc (.cells #[.int .u64 n] 30) = w1 := ⟨_, rfl⟩
  have b1 : Below w.heap.size w w1 := hw1 ▸ below_new w _
  have n1 : w1.cell? ⟨w.heap.size, 0, none⟩ = some (.int .u64 n) := by rw [← hw1, cell_of_row _ _ _ _ _ _ (heap_alloc_new w _)]; rfl
  have h1 := h.below b1
  have T : GTests Try.prog ESt St.ok 48 #[.pointer (some ⟨w.heap.size, 0, none⟩)] (nuIs n) w1 := fun W x q _ => fclo_any x _ n W (cell_below n1 q (Nat.le_refl _))
  obtain ⟨A, cp, rfl, _⟩ := h.form
  have IX := index_so _ _ (nuIs n) A l.length cp l w1 (enters_of Try.func48 (by kernel_rfl) rfl) T (gown_rd h1.own) h1.ok (by have := h.le; omega)
  have k3 := h1.c3
  have B := Lib.hid b1
  have HW1 := Lib.hid hw1
  generalize gidx (nuIs n) l = r at *
  generalize l.length = m at *
  clear h h1 T n1 b1 hw1
  go_enter Try.func32, Try.ntmps32
  go_wp2_with (simp only [HW1.out])
  refine IX.mono ?_; rintro e w2 ⟨rfl, q⟩
  have Q := Lib.hid (B.out.trans (q.mono B.out.size))
  clear q
  go_wp2_with fail
  go_ret
  exact ⟨rfl, Q.out⟩
/-- Where an order of that price is to stand. -/
def plB (buy : Bool) (p : Int) (l : List St) : Nat := (l.findIdx? (worse buy p)).getD l.length
theorem two_bx (w : World) (u v : Value) (t s : TypeId) : ∃ w1 w2, w.alloc (.cells #[u] t) = w1 ∧ w1.alloc (.cells #[v] s) = w2 ∧ Below w.heap.size w w2 ∧ w1.heap.size = w.heap.size + 1 ∧ w2.heap.size = w.heap.size + 2 ∧ w2.cell? ⟨w.heap.size, 0, none⟩ = some u ∧ w2.cell? ⟨w.heap.size + 1, 0, none⟩ = some v := by
  refine ⟨_, _, rfl, rfl, (below_new w _).trans ((below_new _ _).mono (by simp)), by simp, by simp, ?_, ?_⟩
  · rw [cell_of_row _ _ _ _ _ _ (heap_alloc2_old w _ _)]; rfl
  · rw [cell_of_row _ _ _ _ _ _ (heap_alloc2_new w _ _)]; rfl
set_option maxRecDepth 100000 in
set_option maxHeartbeats 1000000 in
theorem splace_any (p : Int) (h : Ds w g v buy c l) : Calls Try.prog 34 #[.pointer (some ⟨g, 0, none⟩), .int .i64 p] w fun e w' => e = .returned (.int .i64 (plB buy p l)) ∧ Below w.heap.size w w' := by
  obtain ⟨w1, w2, hw1, hw2, b2, s1, _, n1, n2⟩ := two_bx w (.pointer (some ⟨g, 0, none⟩)) (.int .i64 p) 23 2
  have h2 := h.below b2
  have T : GTests Try.prog ESt St.ok 51 #[.pointer (some ⟨w.heap.size, 0, none⟩), .pointer (some ⟨w.heap.size + 1, 0, none⟩)] (worse buy p) w2 := fun W x q _ => pclo_any buy g x _ _ p W (cell_below n1 q (Nat.le_refl _)) (cell_below n2 q (Nat.le_refl _)) (cell_below h2.c1 q (Nat.le_refl _))
  obtain ⟨A, cp, rfl, _⟩ := h.form
  have IX := index_so _ _ (worse buy p) A l.length cp l w2 (enters_of Try.func51 (by kernel_rfl) rfl) T (gown_rd h2.own) h2.ok (by have := h.le; omega)
  have k3 := Lib.hid fun W (q : Below w2.heap.size w2 W) => (h2.below q).c3
  have kn := Lib.hid fun W (q : Below w2.heap.size w2 W) => cell_below n1 q (Nat.le_refl _)
  have k3' := h2.c3
  have B := Lib.hid b2
  have HW1 := Lib.hid hw1
  have HW2 := Lib.hid hw2
  have S1 := Lib.hid s1
  have E : Hid ((plB buy p l : Int) = if gidx (worse buy p) l < 0 then (l.length : Int) else gidx (worse buy p) l) := Lib.hid (by
    unfold plB gidx
    cases l.findIdx? (worse buy p) with
    | none => simp
    | some k => exact (if_neg (show ¬ ((k : Nat) : Int) < 0 by omega)).symm)
  rw [E.out]
  generalize gidx (worse buy p) l = r at *
  generalize l.length = m at *
  clear h h2 T b2 hw1 hw2 E
  by_cases c : r < 0
  · rw [if_pos c]
    have hd : decide (r < 0) = true := decide_eq_true c
    clear c
    go_enter Try.func34, Try.ntmps34
    go_wp2_with (simp only [HW1.out, HW2.out])
    refine IX.mono ?_; rintro e w3 ⟨rfl, q⟩
    have Q := Lib.hid (B.out.trans (q.mono B.out.size))
    have k4 := k3.out _ q
    have k5 := kn.out _ q
    clear q
    go_wp2_with fail
    go_ret
    exact ⟨rfl, Q.out⟩
  · rw [if_neg c]
    have hd : decide (r < 0) = false := decide_eq_false c
    clear c
    go_enter Try.func34, Try.ntmps34
    go_wp2_with (simp only [HW1.out, HW2.out])
    refine IX.mono ?_; rintro e w3 ⟨rfl, q⟩
    have Q := Lib.hid (B.out.trans (q.mono B.out.size))
    clear q
    go_wp2_with fail
    go_ret
    exact ⟨rfl, Q.out⟩
theorem built_st : Try.prog.built 66 [] = some (ESt.cells zeroSt).toArray := by kernel_rfl
theorem rs_new (w : World) : ∃ W1, w.alloc (.cells (ESt.cells zeroSt).toArray 66) = W1 ∧ Below w.heap.size w W1 ∧ ESt.Bx 66 W1 w.heap.size zeroSt ∧ W1.heap.size = w.heap.size + 1 := ⟨_, rfl, below_new w _, gbx_new w _, by simp⟩
theorem row_inS {w W : World} {x : St} {g : Nat} (h : w.heap.size ≤ g) (q : Below w.heap.size w W) : Below w.heap.size w (W.setRow g (ESt.cells x).toArray) := below_row0 q h
set_option maxRecDepth 100000 in
set_option maxHeartbeats 1000000 in
theorem sfirst_none (h : Ds w g v buy c []) : Calls Try.prog 36 #[.pointer (some ⟨g, 0, none⟩)] w fun e w' => e = .returned (.tuple #[.agg (ESt.cells zeroSt).toArray, .bool false]) ∧ Below w.heap.size w w' := by
  have hz := zero_st
  obtain ⟨W1, hW1, b1, x1, _⟩ := rs_new w
  have h1 := h.below b1
  have M := smiss_no h1.c0
  obtain ⟨A, cp, rfl, _⟩ := h.form
  have k3 := h1.c3
  have HW := Lib.hid hW1
  have X1 := Lib.hid x1
  have B1 := Lib.hid b1
  simp only [List.length_nil] at k3
  clear h h1 x1 b1 hW1
  go_enter Try.func36, Try.ntmps36
  go_wp2_with fail
  rw [HW.out]
  refine M.mono ?_; rintro e w2 ⟨rfl, rfl⟩
  go_wp2_with (first | (refine gwl_build0 built_st ?_) | (refine gwl_store TSt zeroSt w.heap.size X1.out rfl rfl ?_))
  exact bodyPost_ret (gret TSt rfl _ _ w.heap.size rfl rfl (gbx_set X1.out)) rfl ⟨rfl, row_inS (Nat.le_refl _) B1.out⟩
set_option maxRecDepth 100000 in
set_option maxHeartbeats 1000000 in
theorem sfirst_nc {p : Option Addr} (M : ∀ W, Below w.heap.size w W → Calls Try.prog 31 #[.pointer p] W fun e w' => e = .returned (.bool true) ∧ W = w') : Calls Try.prog 36 #[.pointer p] w fun e w' => e = .returned (.tuple #[.agg (ESt.cells zeroSt).toArray, .bool false]) ∧ Below w.heap.size w w' := by
  have hz := zero_st
  obtain ⟨W1, hW1, b1, x1, _⟩ := rs_new w
  have M := M W1 b1
  have HW := Lib.hid hW1
  have X1 := Lib.hid x1
  have B1 := Lib.hid b1
  clear x1 b1 hW1
  go_enter Try.func36, Try.ntmps36
  go_wp2_with fail
  rw [HW.out]
  refine M.mono ?_; rintro e w2 ⟨rfl, rfl⟩
  go_wp2_with (first | (refine gwl_build0 built_st ?_) | (refine gwl_store TSt zeroSt w.heap.size X1.out rfl rfl ?_))
  exact bodyPost_ret (gret TSt rfl _ _ w.heap.size rfl rfl (gbx_set X1.out)) rfl ⟨rfl, row_inS (Nat.le_refl _) B1.out⟩
set_option maxRecDepth 100000 in
set_option maxHeartbeats 1000000 in
theorem sfirst_some {x : St} {r : List St} (h : Ds w g v buy c (x :: r)) : Calls Try.prog 36 #[.pointer (some ⟨g, 0, none⟩)] w fun e w' => e = .returned (.tuple #[.agg (ESt.cells x).toArray, .bool true]) ∧ Below w.heap.size w w' := by
  have hz := zero_st
  obtain ⟨W1, hW1, b1, x1, _⟩ := rs_new w
  have h1 := h.below b1
  have M := smiss_no h1.c0
  obtain ⟨b, cp, rfl⟩ := h.slot (by simp)
  have RG : Hid (W1.rangeAt b 0 (ESt.cells x)) := Lib.hid (by have := gown_rng h1.own (k := 0) (x := x) rfl; rwa [Nat.zero_mul] at this)
  have k3 := h1.c3
  have HW := Lib.hid hW1
  have X1 := Lib.hid x1
  have B1 := Lib.hid b1
  have e0 : ((r.length + 1 : Nat) : Int) = (r.length : Int) + 1 := by omega
  have e1 : ((r.length : Int) + 1 == 0) = false := beq_eq_false_iff_ne.2 (by omega)
  have e2 : (0 : Int) < (r.length : Int) + 1 := by omega
  simp only [List.length_cons] at k3
  clear h h1 x1 b1 hW1
  generalize r.length = m at *
  go_enter Try.func36, Try.ntmps36
  go_wp2_with fail
  rw [HW.out]
  refine M.mono ?_; rintro e w2 ⟨rfl, rfl⟩
  go_wp2_with (first | ((with_reducible refine gwl_load TSt b 0 RG.out ?_ ?_ ?_); rfl; rfl) | (refine gwl_store TSt x w.heap.size X1.out rfl rfl ?_))
  exact bodyPost_ret (gret TSt rfl _ _ w.heap.size rfl rfl (gbx_set X1.out)) rfl ⟨rfl, row_inS (Nat.le_refl _) B1.out⟩
end
end Go.Proofs.Ytpnccbcaoifdiaa
