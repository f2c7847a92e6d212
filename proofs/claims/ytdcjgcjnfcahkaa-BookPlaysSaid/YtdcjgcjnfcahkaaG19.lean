/- The program's side: Fill. -/
import Derived.Test.YtdcjgcjnfcahkaaG17
namespace Go.Proofs.Ytdcjgcjnfcahkaa
open Go.RowKit Go.Shelf
set_option linter.unusedVariables false
set_option linter.unusedSimpArgs false

section
variable {g : Nat} {v : Value} {buy : Bool} {c : Int} {l : List St} {w : World}
set_option maxRecDepth 100000 in
set_option maxHeartbeats 1000000 in
theorem sfill_nc {p : Option Addr} {n : Int} (M : ∀ W, Below w.heap.size w W → Calls Try.prog 48 #[.pointer p] W fun e w' => e = .returned (.bool true) ∧ W = w') : Calls Try.prog 68 #[.pointer p, .int .i64 n] w fun e w' => e = .returned (.tuple #[.agg (EO.cells zeroOr).toArray, .int .i64 1]) ∧ Below w.heap.size w w' := by
  have hz := zero_or
  obtain ⟨W1, hW1, b1, x1, _⟩ := res_new w
  have M := M W1 b1
  have HW := Lib.hid hW1
  have X1 := Lib.hid x1
  have B1 := Lib.hid b1
  clear x1 b1 hW1
  go_enter Try.func68, Try.ntmps68
  go_wp2_with fail
  rw [HW.out]
  refine M.mono ?_; rintro e w2 ⟨rfl, rfl⟩
  go_wp2_with (first | (refine gwl_build0 built_or ?_) | (refine gwl_store TO zeroOr w.heap.size X1.out rfl rfl ?_))
  exact bodyPost_ret (gret TO rfl _ _ w.heap.size rfl rfl (gbx_set X1.out)) rfl ⟨rfl, row_inO (Nat.le_refl _) B1.out⟩
set_option maxRecDepth 100000 in
set_option maxHeartbeats 2000000 in
theorem sfill_none {n : Int} (h : Ds w g v buy c []) : Calls Try.prog 68 #[.pointer (some ⟨g, 0, none⟩), .int .i64 n] w fun e w' => e = .returned (.tuple #[.agg (EO.cells zeroOr).toArray, .int .i64 7]) ∧ Below w.heap.size w w' := by
  have hz := zero_or
  have hs := zero_st
  obtain ⟨W1, hW1, b1, x1, _⟩ := res_new w
  have h1 := h.below b1
  have M := smiss_no h1.c0
  have FS := sfirst_none h1
  have HW := Lib.hid hW1
  have X1 := Lib.hid x1
  have B1 := Lib.hid b1
  clear h h1 x1 b1 hW1
  go_enter Try.func68, Try.ntmps68
  go_wp2_with fail
  rw [HW.out]
  refine M.mono ?_; rintro e w2 ⟨rfl, rfl⟩
  go_wp2_with fail
  refine FS.mono ?_; rintro e W2 ⟨rfl, q⟩
  obtain ⟨W3, hW3, b3, y3, z3⟩ := fst_bx zeroSt B1.out q
  have HW3 := Lib.hid hW3
  have B3 := Lib.hid b3
  have Z3 := Lib.hid z3
  have X3 := Lib.hid (gbx_below X1.out b3)
  clear q hW3 b3 y3 z3
  go_wp2_with (first | (refine gwl_build0 built_or ?_) | (refine gwl_store TSt zeroSt W2.heap.size Z3.out rfl rfl ?_; rw [HW3.out]) | (refine gwl_store TO zeroOr w.heap.size X3.out rfl rfl ?_))
  exact bodyPost_ret (gret TO rfl _ _ w.heap.size rfl rfl (gbx_set X3.out)) rfl ⟨rfl, row_inO (Nat.le_refl _) (B1.out.trans (B3.out.mono B1.out.size))⟩
set_option maxRecDepth 100000 in
set_option maxHeartbeats 2000000 in
theorem sfill_bad {n : Int} {x : St} {r : List St} (h : Ds w g v buy c (x :: r)) (hb : witB n x.o.le = false) : Calls Try.prog 68 #[.pointer (some ⟨g, 0, none⟩), .int .i64 n] w fun e w' => e = .returned (.tuple #[.agg (EO.cells zeroOr).toArray, .int .i64 2]) ∧ Below w.heap.size w w' := by
  have hz := zero_or
  have hs := zero_st
  obtain ⟨W1, hW1, b1, x1, _⟩ := res_new w
  have h1 := h.below b1
  have M := smiss_no h1.c0
  have FS := sfirst_some h1
  have WT := Lib.hid fun W => wit_any n x.o.le W
  rw [hb] at WT
  have HW := Lib.hid hW1
  have X1 := Lib.hid x1
  have B1 := Lib.hid b1
  clear h h1 x1 b1 hW1 hb
  go_enter Try.func68, Try.ntmps68
  go_wp2_with fail
  rw [HW.out]
  refine M.mono ?_; rintro e w2 ⟨rfl, rfl⟩
  go_wp2_with fail
  refine FS.mono ?_; rintro e W2 ⟨rfl, q⟩
  obtain ⟨W3, hW3, b3, y3, z3⟩ := fst_bx x B1.out q
  have HW3 := Lib.hid hW3
  have B3 := Lib.hid b3
  have Z3 := Lib.hid z3
  have c4 : W3.cell? ⟨W2.heap.size, 4, none⟩ = some (.int .i64 x.o.le) := gbx_cell y3 4
  have X3 := Lib.hid (gbx_below X1.out b3)
  clear q hW3 b3 y3 z3
  go_wp2_with (refine gwl_store TSt x W2.heap.size Z3.out rfl rfl ?_; rw [HW3.out])
  refine (WT.out _).mono ?_; rintro e w4 ⟨rfl, rfl⟩
  go_wp2_with (first | (refine gwl_build0 built_or ?_) | (refine gwl_store TO zeroOr w.heap.size X3.out rfl rfl ?_))
  exact bodyPost_ret (gret TO rfl _ _ w.heap.size rfl rfl (gbx_set X3.out)) rfl ⟨rfl, row_inO (Nat.le_refl _) (B1.out.trans (B3.out.mono B1.out.size))⟩
/-- What is left of a struct that stands. -/
def St.less (x : St) (n : Int) : St := ⟨x.o.wi (x.o.le - n), x.cm⟩
theorem less_set (x : St) (n : Int) : ESt.cells (x.less n) = (ESt.cells x).set 4 (.int .i64 (x.o.le - n)) := rfl
set_option maxRecDepth 100000 in
set_option maxHeartbeats 8000000 in
theorem sfill_all {n : Int} {x : St} {r : List St} (h : Ds w g v buy c (x :: r)) (hb : witB n x.o.le = true) (he : x.o.le - n = 0) : Calls Try.prog 68 #[.pointer (some ⟨g, 0, none⟩), .int .i64 n] w fun e w' => e = .returned (.tuple #[.agg (EO.cells (x.o.wi (x.o.le - n))).toArray, .int .i64 0]) ∧ DsN w g v buy c r w' := by
  have hz := zero_or
  have hs := zero_st
  obtain ⟨W1, hW1, b1, x1, s1⟩ := res_new w
  have h1 := h.below b1
  have M := smiss_no h1.c0
  have FS := sfirst_some h1
  have WT := Lib.hid fun W => wit_any n x.o.le W
  rw [hb] at WT
  obtain ⟨n1, n2⟩ := wit_true hb
  have n3 := (h.ok x (List.mem_cons_self ..)).o.le.2
  obtain ⟨b, cp, rfl⟩ := h.slot (by simp)
  have H1 := Lib.hid h1
  have HH := Lib.hid h
  have HW := Lib.hid hW1
  have X1 := Lib.hid x1
  have B1 := Lib.hid b1
  have S1 := Lib.hid s1
  have BL : Hid (b < w.heap.size ∧ g < w.heap.size ∧ b ≠ g) := Lib.hid ⟨h.vl b rfl, h.gl, h.apart b rfl⟩
  have DEL := Lib.hid fun W (q : Below W1.heap.size W1 W) => delete_so b (x :: r).length cp 0 (x :: r) W (h1.below q).own rfl (by have := h.le; omega) (by simp) 1 rfl
  rw [show ((0 : Nat) : Int) = 0 from rfl, show ((1 : Nat) : Int) = 1 from rfl, List.length_cons] at DEL
  simp only [Nat.add_sub_cancel] at DEL
  have heq : (x.o.le - n == 0) = true := beq_iff_eq.2 he
  have INV := Lib.hid (show InvO buy (osOf r) from h.inv.tail)
  have CM : Hid (∀ y, y ∈ r → 0 ≤ y.cm ∧ y.cm ≤ c) := Lib.hid fun y hy => h.cm y (List.mem_cons_of_mem _ hy)
  have ASC : Hid (r.Pairwise fun x y => ahB buy x y = true) := Lib.hid (List.pairwise_cons.1 h.asc).2
  clear he
  clear h h1 x1 b1 hW1 hb s1
  go_enter Try.func68, Try.ntmps68
  go_wp2_with fail
  rw [HW.out]
  refine M.mono ?_; rintro e w2 ⟨rfl, rfl⟩
  go_wp2_with fail
  refine FS.mono ?_; rintro e W2 ⟨rfl, q⟩
  obtain ⟨W3, hW3, b3, y3, z3⟩ := fst_bx x B1.out q
  have g3 := below_new W2 (.cells (ESt.cells zeroSt).toArray 88)
  have HW3 := Lib.hid hW3
  have Q := Lib.hid q
  have B3 := Lib.hid b3
  have Y3 := Lib.hid y3
  have Z3 := Lib.hid z3
  have c4 : W3.cell? ⟨W2.heap.size, 4, none⟩ = some (.int .i64 x.o.le) := gbx_cell y3 4
  have fz : W3.frozen? ⟨W2.heap.size, 4, none⟩ = false := gbx_fz y3 4
  clear q hW3 b3 y3 z3 g3
  go_wp2_with (refine gwl_store TSt x W2.heap.size Z3.out rfl rfl ?_; rw [HW3.out])
  refine (WT.out _).mono ?_; rintro e w4 ⟨rfl, rfl⟩
  obtain ⟨W4, hW4⟩ : ∃ W4, W3.setCell ⟨W2.heap.size, 4, none⟩ (.int .i64 (x.o.le - n)) = W4 := ⟨_, rfl⟩
  have Y4 : Hid (ESt.Bx 88 W4 W2.heap.size (x.less n)) := Lib.hid (by rw [← hW4]; exact gbx_put Y3.out (less_set x n))
  have B4 : Hid (Below W1.heap.size W1 W4) := Lib.hid (by rw [← hW4]; exact B3.out.setCell Q.out.size _)
  have S4 : Hid (w.heap.size < W2.heap.size ∧ W2.heap.size < W4.heap.size) := Lib.hid ⟨by have := Q.out.size; have := S1.out; omega, (Array.getElem?_eq_some_iff.1 Y4.out).1⟩
  have D4 := Lib.hid (H1.out.below B4.out)
  have d4 : W4.cell? ⟨W2.heap.size, 4, none⟩ = some (.int .i64 (x.o.le - n)) := gbx_cell Y4.out 4
  have k3 := D4.out.c3
  simp only [List.length_cons] at k3
  have HW4 := Lib.hid hW4
  have fb : Hid (∀ j, w.heap.size ≤ j → ¬ DsS g (.slice (some ⟨b, 0, none⟩) (r.length + 1) cp) j) := Lib.hid fun j hj c => by
    have := BL.out
    rcases c with c | c
    · omega
    · injection c with c; have : b = j := c; omega
  have X4 := Lib.hid (gbx_below X1.out B4.out)
  clear hW4
  generalize r.length = m at *
  go_wp2_with (simp only [HW4.out])
  refine (DEL.out _ B4.out).mono ?_; rintro e W5 ⟨rfl, o5, f5⟩
  obtain ⟨c5, z5, d5, f5⟩ := ds_put D4.out (f5.mono fun k e => by rw [e]; rfl) o5 (.inl rfl) INV.out CM.out ASC.out
  have Y5 := Lib.hid (st_or (gbx_rng (gbx_kept Y4.out f5 (fb.out _ (Nat.le_of_lt S4.out.1)))))
  have X5 := Lib.hid (gbx_kept X4.out f5 (fb.out _ (Nat.le_refl _)))
  have D5 := Lib.hid d5
  have F5 := Lib.hid f5
  clear o5 f5 d5
  go_wp2_with (first | ((with_reducible refine gwl_load TO W2.heap.size 0 Y5.out ?_ ?_ ?_); rfl; rfl) | (refine gwl_store TO (x.less n).o w.heap.size X5.out rfl rfl ?_))
  exact bodyPost_ret (gret TO rfl _ _ w.heap.size rfl rfl (gbx_set X5.out)) rfl ⟨rfl, dsn_fin HH.out (B1.out.trans (B4.out.mono B1.out.size)) D5.out F5.out (.inl rfl) (by have := S4.out; omega) _⟩
set_option maxRecDepth 100000 in
set_option maxHeartbeats 8000000 in
theorem sfill_part {n : Int} {x : St} {r : List St} (h : Ds w g v buy c (x :: r)) (hb : witB n x.o.le = true) (he : x.o.le - n ≠ 0) (hi : InvO buy (osOf (x.less n :: r))) : Calls Try.prog 68 #[.pointer (some ⟨g, 0, none⟩), .int .i64 n] w fun e w' => e = .returned (.tuple #[.agg (EO.cells (x.o.wi (x.o.le - n))).toArray, .int .i64 0]) ∧ DsN w g v buy c (x.less n :: r) w' := by
  have hz := zero_or
  have hs := zero_st
  obtain ⟨W1, hW1, b1, x1, s1⟩ := res_new w
  have h1 := h.below b1
  have M := smiss_no h1.c0
  have FS := sfirst_some h1
  have WT := Lib.hid fun W => wit_any n x.o.le W
  rw [hb] at WT
  obtain ⟨n1, n2⟩ := wit_true hb
  have n3 := (h.ok x (List.mem_cons_self ..)).o.le.2
  obtain ⟨b, cp, rfl⟩ := h.slot (by simp)
  have H1 := Lib.hid h1
  have HH := Lib.hid h
  have HW := Lib.hid hW1
  have X1 := Lib.hid x1
  have B1 := Lib.hid b1
  have S1 := Lib.hid s1
  have BL : Hid (b < w.heap.size ∧ g < w.heap.size ∧ b ≠ g) := Lib.hid ⟨h.vl b rfl, h.gl, h.apart b rfl⟩
  have heq : (x.o.le - n == 0) = false := beq_eq_false_iff_ne.2 he
  have INV := Lib.hid hi
  have CM : Hid (∀ y, y ∈ x.less n :: r → 0 ≤ y.cm ∧ y.cm ≤ c) := Lib.hid fun y hy => by
    rcases List.mem_cons.1 hy with rfl | hy
    · exact h.cm x (List.mem_cons_self ..)
    · exact h.cm y (List.mem_cons_of_mem _ hy)
  have ASC : Hid ((x.less n :: r).Pairwise fun x y => ahB buy x y = true) := Lib.hid (asc_key h.asc rfl)
  clear he hi
  clear h h1 x1 b1 hW1 hb s1
  go_enter Try.func68, Try.ntmps68
  go_wp2_with fail
  rw [HW.out]
  refine M.mono ?_; rintro e w2 ⟨rfl, rfl⟩
  go_wp2_with fail
  refine FS.mono ?_; rintro e W2 ⟨rfl, q⟩
  obtain ⟨W3, hW3, b3, y3, z3⟩ := fst_bx x B1.out q
  have g3 := below_new W2 (.cells (ESt.cells zeroSt).toArray 88)
  have HW3 := Lib.hid hW3
  have Q := Lib.hid q
  have B3 := Lib.hid b3
  have Y3 := Lib.hid y3
  have Z3 := Lib.hid z3
  have c4 : W3.cell? ⟨W2.heap.size, 4, none⟩ = some (.int .i64 x.o.le) := gbx_cell y3 4
  have fz : W3.frozen? ⟨W2.heap.size, 4, none⟩ = false := gbx_fz y3 4
  clear q hW3 b3 y3 z3 g3
  go_wp2_with (refine gwl_store TSt x W2.heap.size Z3.out rfl rfl ?_; rw [HW3.out])
  refine (WT.out _).mono ?_; rintro e w4 ⟨rfl, rfl⟩
  obtain ⟨W4, hW4⟩ : ∃ W4, W3.setCell ⟨W2.heap.size, 4, none⟩ (.int .i64 (x.o.le - n)) = W4 := ⟨_, rfl⟩
  have Y4 : Hid (ESt.Bx 88 W4 W2.heap.size (x.less n)) := Lib.hid (by rw [← hW4]; exact gbx_put Y3.out (less_set x n))
  have B4 : Hid (Below W1.heap.size W1 W4) := Lib.hid (by rw [← hW4]; exact B3.out.setCell Q.out.size _)
  have S4 : Hid (w.heap.size < W2.heap.size ∧ W2.heap.size < W4.heap.size) := Lib.hid ⟨by have := Q.out.size; have := S1.out; omega, (Array.getElem?_eq_some_iff.1 Y4.out).1⟩
  have D4 := Lib.hid (H1.out.below B4.out)
  have d4 : W4.cell? ⟨W2.heap.size, 4, none⟩ = some (.int .i64 (x.o.le - n)) := gbx_cell Y4.out 4
  have k3 := D4.out.c3
  simp only [List.length_cons] at k3
  have HW4 := Lib.hid hW4
  have fb : Hid (∀ j, w.heap.size ≤ j → ¬ DsS g (.slice (some ⟨b, 0, none⟩) (r.length + 1) cp) j) := Lib.hid fun j hj c => by
    have := BL.out
    rcases c with c | c
    · omega
    · injection c with c; have : b = j := c; omega
  have X4 := Lib.hid (gbx_below X1.out B4.out)
  clear hW4
  have hml : (0 : Int) < (r.length : Int) + 1 := by omega
  have CK : Hid (∀ U, Fr (fun k => k = b) W4 U → U.cell? ⟨g, 3, none⟩ = some (.slice (some ⟨b, 0, none⟩) (r.length + 1) cp)) := Lib.hid fun U f => (World.cell?_of_block (f.at' g D4.out.gl (fun e => BL.out.2.2 e.symm))).trans k3
  have CY : Hid (∀ U, Fr (fun k => k = b) W4 U → U.rangeAt W2.heap.size 0 (ESt.cells (x.less n))) := Lib.hid fun U f => gbx_rng (gbx_kept Y4.out f (fun e => by have := S4.out; have := BL.out; omega))
  go_wp2_with (simp only [HW4.out])
  refine wp_region_held_drew (S := fun U => Fr (fun k => k = b) W4 U) (by kernel_rfl) ((Fr.refl _ _).drewN 1) (fun hH => ?_)
  refine wpAnyH_take (i := 0) (v := .pointer (some ⟨g, 0, none⟩)) rfl (by kernel_rfl) (by kernel_rfl) (by kernel_rfl) (fun _ _ _ h => h) (.inl ⟨by rfl, ?_⟩) (by assumption) ?_
  · intro W hW; go_simp
  try simp only [List.getElem_toArray, List.getElem_cons_zero, Act.put, List.setIfInBounds_toArray, List.set_cons_zero, List.set_cons_succ]
  refine wpAnyH_take (i := 1) (v := .pointer (some ⟨g, 0, none⟩)) rfl (by kernel_rfl) (by kernel_rfl) (by kernel_rfl) (fun _ _ _ h => h) (.inl ⟨by rfl, ?_⟩) (by assumption) ?_
  · intro W hW; go_simp
  try simp only [List.getElem_toArray, List.getElem_cons_zero, List.getElem_cons_succ, Act.put, List.setIfInBounds_toArray, List.set_cons_zero, List.set_cons_succ]
  refine wpAnyH_take (i := 2) (v := .pointer (some ⟨g, 3, none⟩)) rfl (by kernel_rfl) (by kernel_rfl) (by kernel_rfl) (fun _ _ _ h => h) (.inl ⟨by rfl, ?_⟩) (by assumption) ?_
  · intro W hW; go_simp
  try simp only [List.getElem_toArray, List.getElem_cons_zero, List.getElem_cons_succ, Act.put, List.setIfInBounds_toArray, List.set_cons_zero, List.set_cons_succ]
  refine wpAnyH_take (i := 3) (v := .slice (some ⟨b, 0, none⟩) (r.length + 1) cp) rfl (by kernel_rfl) (by kernel_rfl) (by kernel_rfl) (fun _ _ _ h => h) (.inl ⟨by rfl, ?_⟩) (by assumption) ?_
  · intro W hW; have k := CK.out W hW; go_simp
  try simp only [List.getElem_toArray, List.getElem_cons_zero, List.getElem_cons_succ, Act.put, List.setIfInBounds_toArray, List.set_cons_zero, List.set_cons_succ]
  refine wpAnyH_take (i := 4) (v := .agg (ESt.cells (x.less n)).toArray) rfl (by kernel_rfl) (by kernel_rfl) (by kernel_rfl) (fun _ _ _ h => h) (gyields_load TSt (by rfl) (.tmp 6) rfl W2.heap.size 0 rfl CY.out) (by assumption) ?_
  try simp only [List.getElem_toArray, List.getElem_cons_zero, List.getElem_cons_succ, Act.put, List.setIfInBounds_toArray, List.set_cons_zero, List.set_cons_succ]
  refine wpAnyH_take (i := 5) (v := .pointer (some ⟨b, 0, none⟩)) rfl (by kernel_rfl) (by kernel_rfl) (by kernel_rfl) (fun _ _ _ h => h) (.inl ⟨by rfl, ?_⟩) (by assumption) ?_
  · intro W hW; go_simp
  try simp only [List.getElem_toArray, List.getElem_cons_zero, List.getElem_cons_succ, Act.put, List.setIfInBounds_toArray, List.set_cons_zero, List.set_cons_succ]
  have TH : Hid (W4.drew.there b 0 (ESt.cells (x.less n)).toArray.size) := Lib.hid (by have := gown_there (D4.out.own) (k := 0) (x := x) rfl (x.less n); rw [Nat.zero_mul] at this; exact this)
  refine wpAnyH_ready (rs := [6]) (by decide +kernel) (by simp) (AllReadyH.cons rfl (fun KQ hK => ?_) AllReadyH.nil)
  rw [if_pos (by rfl)]
  refine wp_store_mid 88 _ _ rfl b 0 (ESt.cells (x.less n)).toArray rfl rfl TH.out (by rw [gsize TSt, List.size_toArray, ESt.len]) (gall_one (E := ESt) (x.less n)) ?_
  have F5a : Fr (fun k => k = b) W4 (W4.drew.setCells b 0 (ESt.cells (x.less n)).toArray.toList) := ((Fr.refl _ _).drewN 1).same (fr_cells (S := fun k => k = b) rfl _ _ _)
  refine hK.out _ _ F5a (fun _ => ?_)
  clear hK hH
  try simp only [Act.put]
  refine wpAnyH_done (by decide +kernel) ?_ _
  rw [show (ESt.cells (x.less n)).toArray.toList = ESt.cells (x.less n) from rfl] at F5a
  try rw [show (ESt.cells (x.less n)).toArray.toList = ESt.cells (x.less n) from rfl]
  obtain ⟨W5, hW5⟩ : ∃ W5, W4.drew.setCells b 0 (ESt.cells (x.less n)) = W5 := ⟨_, rfl⟩
  rw [hW5] at F5a ⊢
  have o5 : ESt.Own 88 W5 0 (.slice (some ⟨b, 0, none⟩) (r.length + 1) cp) (x.less n :: r) := by
    have od : ESt.Own 88 W4.drew 0 (.slice (some ⟨b, 0, none⟩) (x :: r).length cp) (x :: r) := D4.out.own
    have := gown_set od (k := 0) (by simp) (x.less n)
    rw [Nat.zero_mul, hW5] at this
    exact this
  have f5 : Fr (DsS g (.slice (some ⟨b, 0, none⟩) (r.length + 1) cp)) W4 W5 := F5a.mono fun k e => .inr (by rw [e]; rfl)
  have D5 : Hid (Ds W5 g (.slice (some ⟨b, 0, none⟩) (r.length + 1) cp) buy c (x.less n :: r)) := Lib.hid ⟨(F5a.at' g D4.out.gl (fun e => BL.out.2.2 e.symm)).trans D4.out.blk, o5, INV.out, CM.out, ASC.out, D4.out.nn⟩
  have Y5 := Lib.hid (st_or (CY.out _ F5a))
  have X5 := Lib.hid (gbx_kept X4.out f5 (fb.out _ (Nat.le_refl _)))
  have F5 := Lib.hid f5
  clear o5 f5 F5a hW5
  go_wp2_with (first | ((with_reducible refine gwl_load TO W2.heap.size 0 Y5.out ?_ ?_ ?_); rfl; rfl) | (refine gwl_store TO (x.less n).o w.heap.size X5.out rfl rfl ?_))
  exact bodyPost_ret (gret TO rfl _ _ w.heap.size rfl rfl (gbx_set X5.out)) rfl ⟨rfl, dsn_fin HH.out (B1.out.trans (B4.out.mono B1.out.size)) D5.out F5.out (.inl rfl) (by have := S4.out; omega) _⟩
end
end Go.Proofs.Ytdcjgcjnfcahkaa
