/- The program's side: behind, at, Best, Len, New, Get. -/
import Derived.Test.YtpnccbcaoifdiaaJf
import Derived.Test.YtpnccbcaoifdiaaSh
namespace Go.Proofs.Ytpnccbcaoifdiaa
open Go.RowKit Go.Shelf
set_option linter.unusedVariables false

/-- What is needed within behind. -/
theorem three_bx (w : World) (p : Option Addr) (a : St) : ∃ w1 w2 w3, w.alloc (.cells #[.pointer p] 23) = w1 ∧ w1.alloc (.cells (ESt.cells a).toArray 66) = w2 ∧ w2.alloc (.cells (ESt.cells zeroSt).toArray 66) = w3 ∧ Below w.heap.size w w3 ∧ w.heap.size ≤ w2.heap.size ∧
    w3.cell? ⟨w.heap.size, 0, none⟩ = some (.pointer p) ∧ ESt.Bx 66 w3 w1.heap.size a ∧ ESt.Bx 66 w3 w2.heap.size zeroSt := by
  obtain ⟨w1, hw1⟩ : ∃ w1, w.alloc (.cells #[.pointer p] 23) = w1 := ⟨_, rfl⟩
  obtain ⟨w2, hw2⟩ : ∃ w2, w1.alloc (.cells (ESt.cells a).toArray 66) = w2 := ⟨_, rfl⟩
  obtain ⟨w3, hw3⟩ : ∃ w3, w2.alloc (.cells (ESt.cells zeroSt).toArray 66) = w3 := ⟨_, rfl⟩
  have b1 : Below w.heap.size w w1 := hw1 ▸ below_new w _
  have b2 : Below w1.heap.size w1 w2 := hw2 ▸ below_new w1 _
  have b3 : Below w2.heap.size w2 w3 := hw3 ▸ below_new w2 _
  have s1 : w1.heap.size = w.heap.size + 1 := by rw [← hw1]; simp
  have s2 : w2.heap.size = w1.heap.size + 1 := by rw [← hw2]; simp
  have c1 : w1.cell? ⟨w.heap.size, 0, none⟩ = some (.pointer p) := by rw [← hw1, cell_of_row _ _ _ _ _ _ (heap_alloc_new w _)]; rfl
  have x2 : ESt.Bx 66 w2 w1.heap.size a := hw2 ▸ gbx_new w1 a
  have x3 : ESt.Bx 66 w3 w2.heap.size zeroSt := hw3 ▸ gbx_new w2 zeroSt
  refine ⟨w1, w2, w3, hw1, hw2, hw3, b1.trans ((b2.trans (b3.mono b2.size)).mono b1.size), by omega, cell_below (cell_below c1 b2 (Nat.le_refl _)) b3 (Nat.le_refl _), gbx_below x2 b3, x3⟩
section
variable {g : Nat} {v : Value} {buy : Bool} {c : Int} {l : List St} {w : World}
set_option maxRecDepth 100000 in
set_option maxHeartbeats 1000000 in
theorem sbehind_some (a : St) {k : Nat} {x : St} (h : Ds w g v buy c l) (hk : gidx (ahB buy a) l = k) (hx : l[k]? = some x) : Calls Try.prog 46 #[.pointer (some ⟨g, 0, none⟩), .agg (ESt.cells a).toArray] w fun e w' => e = .returned (.tuple #[.agg (ESt.cells x).toArray, .bool true]) ∧ Below w.heap.size w w' := by
  have hz := zero_st
  obtain ⟨w1, w2, w3, hw1, hw2, hw3, b3, s2, c1, xa, xz⟩ := three_bx w (some ⟨g, 0, none⟩) a
  have h3 := h.below b3
  have T : GTests Try.prog ESt St.ok 53 #[.pointer (some ⟨w.heap.size, 0, none⟩), .pointer (some ⟨w1.heap.size, 0, none⟩)] (ahB buy a) w3 := fun W x q _ => bclo_any buy g a x _ _ W (cell_below c1 q (Nat.le_refl _)) (gbx_below xa q) (cell_below h3.c1 q (Nat.le_refl _))
  have hkl := (List.getElem?_eq_some_iff.1 hx).1
  obtain ⟨b, cp, rfl⟩ := h.slot (by omega)
  have IX := index_so _ _ (ahB buy a) (some ⟨b, 0, none⟩) l.length cp l w3 (enters_of Try.func53 (by kernel_rfl) rfl) T (gown_rd h3.own) h3.ok (by have := h.le; omega)
  rw [hk] at IX
  have K3 := Lib.hid fun W (q : Below w3.heap.size w3 W) => (h3.below q).c3
  have KC := Lib.hid fun W (q : Below w3.heap.size w3 W) => cell_below c1 q (Nat.le_refl _)
  have RG : Hid (∀ W, Below w3.heap.size w3 W → W.rangeAt b (k * 6) (ESt.cells x)) := Lib.hid fun W q => gown_rng (h3.below q).own hx
  have XZ := Lib.hid fun W (q : Below w3.heap.size w3 W) => gbx_below xz q
  have k3 := h3.c3
  have B := Lib.hid b3
  have HW1 := Lib.hid hw1
  have HW2 := Lib.hid hw2
  have HW3 := Lib.hid hw3
  have S2 := Lib.hid s2
  have hki : (k : Int) < (l.length : Int) := by omega
  have hd : decide ((k : Int) < 0) = false := decide_eq_false (by omega)
  clear h h3 T b3 hw1 hw2 hw3 xa xz hk hx s2
  generalize l.length = m at *
  go_enter Try.func46, Try.ntmps46
  go_wp2_with (simp only [HW1.out, HW2.out, HW3.out])
  refine IX.mono ?_; rintro e w4 ⟨rfl, q⟩
  have Q := Lib.hid q
  have k4 := K3.out _ q
  have k5 := KC.out _ q
  clear q
  go_wp2_with (first | ((with_reducible refine gwl_load TSt b (k * 6) (RG.out _ Q.out) ?_ ?_ ?_); rfl; rfl) | (refine gwl_store TSt x w2.heap.size (XZ.out _ Q.out) rfl rfl ?_))
  exact bodyPost_ret (gret TSt rfl _ _ w2.heap.size rfl rfl (gbx_set (XZ.out _ Q.out))) rfl ⟨rfl, row_inS S2.out (B.out.trans (Q.out.mono B.out.size))⟩
set_option maxRecDepth 100000 in
set_option maxHeartbeats 1000000 in
theorem sbehind_none (a : St) (h : Ds w g v buy c l) (hk : gidx (ahB buy a) l = -1) : Calls Try.prog 46 #[.pointer (some ⟨g, 0, none⟩), .agg (ESt.cells a).toArray] w fun e w' => e = .returned (.tuple #[.agg (ESt.cells zeroSt).toArray, .bool false]) ∧ Below w.heap.size w w' := by
  have hz := zero_st
  obtain ⟨w1, w2, w3, hw1, hw2, hw3, b3, s2, c1, xa, xz⟩ := three_bx w (some ⟨g, 0, none⟩) a
  have h3 := h.below b3
  have T : GTests Try.prog ESt St.ok 53 #[.pointer (some ⟨w.heap.size, 0, none⟩), .pointer (some ⟨w1.heap.size, 0, none⟩)] (ahB buy a) w3 := fun W x q _ => bclo_any buy g a x _ _ W (cell_below c1 q (Nat.le_refl _)) (gbx_below xa q) (cell_below h3.c1 q (Nat.le_refl _))
  obtain ⟨A, cp, rfl, _⟩ := h.form
  have IX := index_so _ _ (ahB buy a) A l.length cp l w3 (enters_of Try.func53 (by kernel_rfl) rfl) T (gown_rd h3.own) h3.ok (by have := h.le; omega)
  rw [hk] at IX
  have XZ := Lib.hid fun W (q : Below w3.heap.size w3 W) => gbx_below xz q
  have k3 := h3.c3
  have B := Lib.hid b3
  have HW1 := Lib.hid hw1
  have HW2 := Lib.hid hw2
  have HW3 := Lib.hid hw3
  have S2 := Lib.hid s2
  clear h h3 T b3 hw1 hw2 hw3 xa xz hk s2
  generalize l.length = m at *
  go_enter Try.func46, Try.ntmps46
  go_wp2_with (simp only [HW1.out, HW2.out, HW3.out])
  refine IX.mono ?_; rintro e w4 ⟨rfl, q⟩
  have Q := Lib.hid q
  clear q
  go_wp2_with (first | (refine gwl_build0 built_st ?_) | (refine gwl_store TSt zeroSt w2.heap.size (XZ.out _ Q.out) rfl rfl ?_))
  exact bodyPost_ret (gret TSt rfl _ _ w2.heap.size rfl rfl (gbx_set (XZ.out _ Q.out))) rfl ⟨rfl, row_inS S2.out (B.out.trans (Q.out.mono B.out.size))⟩
set_option maxRecDepth 100000 in
theorem sat_none (n : Int) (h : Ds w g v buy c l) (hk : gidx (nuIs n) l = -1) : Calls Try.prog 40 #[.pointer (some ⟨g, 0, none⟩), .int .u64 n] w fun e w' => e = .returned (.tuple #[.int .i64 0, .int .i64 7]) ∧ Below w.heap.size w w' := by
  have M := smiss_no h.c0
  have F := sfind_any n h
  rw [hk] at F
  clear h hk
  go_enter Try.func40, Try.ntmps40
  go_wp2_with fail
  refine M.mono ?_; rintro e w2 ⟨rfl, rfl⟩
  go_wp2_with fail
  refine F.mono ?_; rintro e w3 ⟨rfl, q⟩
  have Q := Lib.hid q
  clear q
  go_wp2_with fail
  go_ret2
  exact ⟨rfl, Q.out⟩
set_option maxRecDepth 100000 in
theorem sat_some (n : Int) {k : Nat} (h : Ds w g v buy c l) (hk : gidx (nuIs n) l = k) : Calls Try.prog 40 #[.pointer (some ⟨g, 0, none⟩), .int .u64 n] w fun e w' => e = .returned (.tuple #[.int .i64 k, .int .i64 0]) ∧ Below w.heap.size w w' := by
  have M := smiss_no h.c0
  have F := sfind_any n h
  rw [hk] at F
  have hd : decide ((k : Int) < 0) = false := decide_eq_false (by omega)
  clear h hk
  go_enter Try.func40, Try.ntmps40
  go_wp2_with fail
  refine M.mono ?_; rintro e w2 ⟨rfl, rfl⟩
  go_wp2_with fail
  refine F.mono ?_; rintro e w3 ⟨rfl, q⟩
  have Q := Lib.hid q
  clear q
  go_wp2_with fail
  go_ret2
  exact ⟨rfl, Q.out⟩
set_option maxRecDepth 100000 in
theorem slen_any (h : Ds w g v buy c l) : Calls Try.prog 28 #[.pointer (some ⟨g, 0, none⟩)] w fun e w' => e = .returned (.int .i64 l.length) ∧ Below w.heap.size w w' := by
  have M := smiss_no h.c0
  obtain ⟨A, cp, rfl, _⟩ := h.form
  have k3 := h.c3
  clear h
  generalize l.length = m at *
  go_enter Try.func28, Try.ntmps28
  go_wp2_with fail
  refine M.mono ?_; rintro e w2 ⟨rfl, rfl⟩
  go_wp2_with fail
  go_ret
  exact ⟨rfl, Below.refl _ _⟩
theorem inv_nil (buy : Bool) : InvO buy (osOf []) := InvO.nil buy
set_option maxRecDepth 100000 in
theorem snew_any (w : World) (buy : Bool) : Calls Try.prog 8 #[.bool buy] w fun e w' => e = .returned (.pointer (some ⟨w.heap.size, 0, none⟩)) ∧ Ds w' w.heap.size (.slice none 0 0) buy 0 [] ∧ Below w.heap.size w w' := by
  have D : Hid (Ds (w.alloc (.cells #[.bool true, .bool buy, .int .u64 0, .slice none 0 0] 51)) w.heap.size (.slice none 0 0) buy 0 []) :=
    Lib.hid ⟨heap_alloc_new w _, gown_nil _ _, inv_nil buy, (fun x hx => by cases hx), List.Pairwise.nil, by decide⟩
  go_enter Try.func8, Try.ntmps8
  go_wp2_with fail
  go_ret
  exact ⟨rfl, D.out, below_new _ _⟩
/-- first's answer, laid in a block. -/
theorem fst_bx {w W1 W2 : World} (x : St) (b1 : Below w.heap.size w W1) (q : Below W1.heap.size W1 W2) : ∃ W3, (W2.alloc (.cells (ESt.cells zeroSt).toArray 66)).setRow W2.heap.size (ESt.cells x).toArray = W3 ∧ Below W1.heap.size W1 W3 ∧ ESt.Bx 66 W3 W2.heap.size x ∧ ESt.Bx 66 (W2.alloc (.cells (ESt.cells zeroSt).toArray 66)) W2.heap.size zeroSt := by
  refine ⟨_, rfl, ?_, gbx_set (gbx_new W2 zeroSt), gbx_new W2 zeroSt⟩
  exact q.trans ((row_inS (Nat.le_refl _) (below_new W2 _)).mono q.size)
set_option maxRecDepth 100000 in
set_option maxHeartbeats 1000000 in
/-- Best, out of what first answers. -/
theorem sbest_of {p : Option Addr} {x : St} {b : Bool} (F : ∀ W, Below w.heap.size w W → Calls Try.prog 36 #[.pointer p] W fun e w' => e = .returned (.tuple #[.agg (ESt.cells x).toArray, .bool b]) ∧ Below W.heap.size W w') :
    Calls Try.prog 25 #[.pointer p] w fun e w' => e = .returned (.tuple #[.agg (EO.cells x.o).toArray, .bool b]) ∧ Below w.heap.size w w' := by
  have hz := zero_or
  have hs := zero_st
  obtain ⟨W1, hW1, b1, x1, _⟩ := res_new w
  have F := F W1 b1
  have HW := Lib.hid hW1
  have X1 := Lib.hid x1
  have B1 := Lib.hid b1
  clear x1 b1 hW1
  go_enter Try.func25, Try.ntmps25
  go_wp2_with fail
  rw [HW.out]
  refine F.mono ?_; rintro e W2 ⟨rfl, q⟩
  obtain ⟨W3, hW3, b3, y3, z3⟩ := fst_bx x B1.out q
  have HW3 := Lib.hid hW3
  have B3 := Lib.hid b3
  have Y3 := Lib.hid (st_or (gbx_rng y3))
  have Z3 := Lib.hid z3
  have X3 := Lib.hid (gbx_below X1.out b3)
  clear q hW3 b3 y3 z3
  go_wp2_with (first | (refine gwl_store TSt x W2.heap.size Z3.out rfl rfl ?_; rw [HW3.out]) | ((with_reducible refine gwl_load TO W2.heap.size 0 Y3.out ?_ ?_ ?_); rfl; rfl) | (refine gwl_store TO x.o w.heap.size X3.out rfl rfl ?_))
  exact bodyPost_ret (gret TO rfl _ _ w.heap.size rfl rfl (gbx_set X3.out)) rfl ⟨rfl, row_inO (Nat.le_refl _) (B1.out.trans (B3.out.mono B1.out.size))⟩
set_option maxRecDepth 100000 in
set_option maxHeartbeats 1000000 in
/-- Get, where at tells an error. -/
theorem sget_err {p : Option Addr} {n er : Int} (her : (er != 0) = true) (F : ∀ W, Below w.heap.size w W → Calls Try.prog 40 #[.pointer p, .int .u64 n] W fun e w' => e = .returned (.tuple #[.int .i64 0, .int .i64 er]) ∧ Below W.heap.size W w') :
    Calls Try.prog 20 #[.pointer p, .int .u64 n] w fun e w' => e = .returned (.tuple #[.agg (EO.cells zeroOr).toArray, .int .i64 er]) ∧ Below w.heap.size w w' := by
  have hz := zero_or
  obtain ⟨W1, hW1, b1, x1, _⟩ := res_new w
  have F := F W1 b1
  have HW := Lib.hid hW1
  have X1 := Lib.hid fun W (q : Below W1.heap.size W1 W) => gbx_below x1 q
  have B1 := Lib.hid b1
  clear x1 b1 hW1
  go_enter Try.func20, Try.ntmps20
  go_wp2_with fail
  rw [HW.out]
  refine F.mono ?_; rintro e W2 ⟨rfl, q⟩
  have Q := Lib.hid q
  clear q
  go_wp2_with (first | (refine gwl_build0 built_or ?_) | (refine gwl_store TO zeroOr w.heap.size (X1.out _ Q.out) rfl rfl ?_))
  exact bodyPost_ret (gret TO rfl _ _ w.heap.size rfl rfl (gbx_set (X1.out _ Q.out))) rfl ⟨rfl, row_inO (Nat.le_refl _) (B1.out.trans (Q.out.mono B1.out.size))⟩
set_option maxRecDepth 100000 in
set_option maxHeartbeats 1000000 in
theorem sget_some {n : Int} {k : Nat} {x : St} (h : Ds w g v buy c l) (hk : gidx (nuIs n) l = k) (hx : l[k]? = some x) : Calls Try.prog 20 #[.pointer (some ⟨g, 0, none⟩), .int .u64 n] w fun e w' => e = .returned (.tuple #[.agg (EO.cells x.o).toArray, .int .i64 0]) ∧ Below w.heap.size w w' := by
  have hz := zero_or
  obtain ⟨W1, hW1, b1, x1, _⟩ := res_new w
  have h1 := h.below b1
  have F := sat_some n h1 hk
  have hkl := (List.getElem?_eq_some_iff.1 hx).1
  obtain ⟨b, cp, rfl⟩ := h.slot (by omega)
  have K3 := Lib.hid fun W (q : Below W1.heap.size W1 W) => (h1.below q).c3
  have RG : Hid (∀ W, Below W1.heap.size W1 W → W.rangeAt b (k * 6) (EO.cells x.o)) := Lib.hid fun W q => st_or (gown_rng (h1.below q).own hx)
  have HW := Lib.hid hW1
  have X1 := Lib.hid fun W (q : Below W1.heap.size W1 W) => gbx_below x1 q
  have B1 := Lib.hid b1
  have hki : (k : Int) < (l.length : Int) := by omega
  clear h h1 x1 b1 hW1 hk hx
  generalize l.length = m at *
  go_enter Try.func20, Try.ntmps20
  go_wp2_with fail
  rw [HW.out]
  refine F.mono ?_; rintro e W2 ⟨rfl, q⟩
  have Q := Lib.hid q
  have k3 := K3.out _ q
  clear q
  go_wp2_with (first | ((with_reducible refine gwl_load TO b (k * 6) (RG.out _ Q.out) ?_ ?_ ?_); rfl; rfl) | (refine gwl_store TO x.o w.heap.size (X1.out _ Q.out) rfl rfl ?_))
  exact bodyPost_ret (gret TO rfl _ _ w.heap.size rfl rfl (gbx_set (X1.out _ Q.out))) rfl ⟨rfl, row_inO (Nat.le_refl _) (B1.out.trans (Q.out.mono B1.out.size))⟩
end
end Go.Proofs.Ytpnccbcaoifdiaa
