/- The program's ledger in memory; missing, oneTo, Within, inBounds, Get, there, Position, New. -/
import Derived.Test.YthnmpnepgagmmaaMb
namespace Go.Proofs.Ythnmpnepgagmmaa
open Go.RowKit Go.Shelf
set_option linter.unusedVariables false
set_option linter.unusedSimpArgs false
set_option linter.unusedSectionVars false

/-- The program's ledger: its block, both maps. -/
structure Dl (W : World) (g ba bp : Nat) (L : Lg) : Prop where
  blk : W.heap[g]? = some (.cells #[.int .i64 L.fund, .map (some ba), .map (some bp)] 60 (0, 0))
  ma : MA.Mp W ba L.al
  mp : MP.Mp W bp L.hl
  ne : ba ≠ bp
  inv : LgI L
/-- Its blocks. -/
def LdS (g ba bp k : Nat) : Prop := k = g ∨ k = ba ∨ k = bp
section
variable {W W' : World} {g ba bp : Nat} {L : Lg}
theorem Dl.c0 (h : Dl W g ba bp L) : W.cell? ⟨g, 0, none⟩ = some (.int .i64 L.fund) := by rw [cell_of_row _ _ _ _ _ _ h.blk]; rfl
theorem Dl.c1 (h : Dl W g ba bp L) : W.cell? ⟨g, 1, none⟩ = some (.map (some ba)) := by rw [cell_of_row _ _ _ _ _ _ h.blk]; rfl
theorem Dl.c2 (h : Dl W g ba bp L) : W.cell? ⟨g, 2, none⟩ = some (.map (some bp)) := by rw [cell_of_row _ _ _ _ _ _ h.blk]; rfl
theorem Dl.fz (h : Dl W g ba bp L) (j : Nat) : W.frozen? ⟨g, j, none⟩ = false := by simp [World.frozen?, h.blk]
theorem Dl.gl (h : Dl W g ba bp L) : g < W.heap.size := (Array.getElem?_eq_some_iff.1 h.blk).1
theorem Dl.lt (h : Dl W g ba bp L) {k : Nat} (hk : LdS g ba bp k) : k < W.heap.size := by
  rcases hk with rfl | rfl | rfl
  · exact h.gl
  · exact h.ma.lt
  · exact h.mp.lt
theorem Dl.na (h : Dl W g ba bp L) : g ≠ ba := by
  rintro rfl
  obtain ⟨es, c, hb⟩ := h.ma.blk
  rw [h.blk] at hb
  cases hb
theorem Dl.np (h : Dl W g ba bp L) : g ≠ bp := by
  rintro rfl
  obtain ⟨es, c, hb⟩ := h.mp.blk
  rw [h.blk] at hb
  cases hb
theorem Dl.keep {S : Nat → Prop} (h : Dl W g ba bp L) (f : Fr S W W') (hS : ∀ k, LdS g ba bp k → ¬ S k) : Dl W' g ba bp L :=
  ⟨(f.at' g h.gl (hS g (.inl rfl))).trans h.blk, h.ma.fr f (hS ba (.inr (.inl rfl))), h.mp.fr f (hS bp (.inr (.inr rfl))), h.ne, h.inv⟩
theorem Dl.below (h : Dl W g ba bp L) (q : Below W.heap.size W W') : Dl W' g ba bp L := h.keep (S := fun _ => False) (Fr.below q) (fun _ _ h => h)
theorem Dl.drewN (h : Dl W g ba bp L) (n : Nat) : Dl (W.drewN n) g ba bp L := ⟨h.blk, h.ma, h.mp, h.ne, h.inv⟩
theorem Dl.drew (h : Dl W g ba bp L) : Dl W.drew g ba bp L := ⟨h.blk, h.ma, h.mp, h.ne, h.inv⟩
end
theorem eqmapIn9 {t k e : TypeId} {P : Program} (h : P.underlying t = some (.map k e)) (p : Option Nat) (w : World) (d : Nat) : (Op.equalIn (d + 1) t (.map p) (.map none)).run P w = .ok p.isNone w := by cases p <;> simp [Op.equalIn, run_underlying h]
theorem eqmap9 {t k e : TypeId} {P : Program} (h : P.underlying t = some (.map k e)) (p : Option Nat) (w : World) : (binOp .eql t (.map p) (.map none)).run P w = .ok (.bool p.isNone) w := by
  have e := eqmapIn9 h p w 9999
  simp only [binOp]
  simp [show Op.equal t (.map p) (.map none) = Op.equalIn (9999 + 1) t (.map p) (.map none) from rfl, e]
theorem lmiss9 {W : World} {g ba bp : Nat} {L : Lg} (h : Dl W g ba bp L) : Calls Try.prog 28 #[.pointer (some ⟨g, 0, none⟩)] W fun e w' => e = .returned (.bool false) ∧ W = w' := by
  have c1 := h.c1
  have hq := fun w => eqmap9 (P := Try.prog) Try.underlying57 (some ba) w
  clear h
  go_enter Try.func28, Try.ntmps28
  go_wp2_with fail
  go_ret
  exact ⟨rfl, rfl⟩
theorem lone9 (n m : Int) (w : World) : Calls Try.prog 29 #[.int .i64 n, .int .i64 m] w fun e w' => e = .returned (.bool (oneB n m)) ∧ w = w' := by
  unfold oneB
  cases h : decide (1 ≤ n)
  · go_enter Try.func29, Try.ntmps29
    go_wp2
    go_ret
    exact ⟨rfl, rfl⟩
  · go_enter Try.func29, Try.ntmps29
    go_wp2
    go_ret
    exact ⟨by simp, rfl⟩
def witB (n m : Int) : Bool := decide (-m ≤ n) && decide (n ≤ m)
theorem lwith9 (n m : Int) (hm : 0 ≤ m ∧ m ≤ 1000000000000000) (w : World) : Calls Try.prog 52 #[.int .i64 n, .int .i64 m] w fun e w' => e = .returned (.bool (witB n m)) ∧ w = w' := by
  unfold witB
  have h0 : decide (0 ≤ m) = true := decide_eq_true hm.1
  have hw : wrap64 (-m) = -m := by unfold wrap64; omega
  cases h : decide (-m ≤ n)
  · go_enter Try.func52, Try.ntmps52
    go_wp2
    go_ret
    exact ⟨rfl, rfl⟩
  · go_enter Try.func52, Try.ntmps52
    go_wp2
    go_ret
    exact ⟨by simp, rfl⟩
theorem built_ac : Try.prog.built 33 [] = some (EA.cells zeroAc).toArray := by kernel_rfl
theorem newA9 (w : World) : ∃ W1, w.alloc (.cells (EA.cells zeroAc).toArray 33) = W1 ∧ Below w.heap.size w W1 ∧ EA.Bx 33 W1 w.heap.size zeroAc := ⟨_, rfl, below_new w _, gbx_new w _⟩
theorem newP9 (w : World) : ∃ W1, w.alloc (.cells (EP.cells zeroPo).toArray 47) = W1 ∧ Below w.heap.size w W1 ∧ EP.Bx 47 W1 w.heap.size zeroPo := ⟨_, rfl, below_new w _, gbx_new w _⟩
/-! Looking up. -/
section
variable {w : World} {ops : Array Oper} {rest : List Oper} {o : Oper} {a : Act} {Q : Exit → Act → World → Prop} {b : Nat}
theorem wlA_some {l : List Ac} (hg : o.guard = none) (m x : Operand) (hop : o.op = Op.lookup 57 m x true) (hm : a.eval m = .map (some b)) (h : MA.Mp w b l) {c : Int} (hx : a.eval x = .int .u32 c) (hc : U32' c) {y : Ac} (e : MA.at l c = some y)
    (hK : wpList Try.prog ops Q rest (a.put o.dst (.tuple #[.agg (EA.cells y).toArray, .bool true])) w) : wpList Try.prog ops Q (o :: rest) a w :=
  wpl9_look w hg m x _ hop Try.underlying57 (zero_ac w) hm h hx hc (by rw [e]; exact hK)
theorem wlA_none {l : List Ac} (hg : o.guard = none) (m x : Operand) (hop : o.op = Op.lookup 57 m x true) (hm : a.eval m = .map (some b)) (h : MA.Mp w b l) {c : Int} (hx : a.eval x = .int .u32 c) (hc : U32' c) (e : MA.at l c = none)
    (hK : wpList Try.prog ops Q rest (a.put o.dst (.tuple #[.agg (EA.cells zeroAc).toArray, .bool false])) w) : wpList Try.prog ops Q (o :: rest) a w :=
  wpl9_look w hg m x _ hop Try.underlying57 (zero_ac w) hm h hx hc (by rw [e]; exact hK)
theorem wlP_some {l : List Po} (hg : o.guard = none) (m x : Operand) (hop : o.op = Op.lookup 58 m x true) (hm : a.eval m = .map (some b)) (h : MP.Mp w b l) {c d : Int} (hx : a.eval x = .agg #[.int .u32 c, .int .u32 d]) (hc : U32' c) (hd : U32' d) {y : Po} (e : MP.at l (c, d) = some y)
    (hK : wpList Try.prog ops Q rest (a.put o.dst (.tuple #[.agg (EP.cells y).toArray, .bool true])) w) : wpList Try.prog ops Q (o :: rest) a w :=
  wpl9_look w hg m x _ hop Try.underlying58 (zero_po w) hm h (c := (c, d)) hx ⟨hc, hd⟩ (by rw [e]; exact hK)
theorem wlP_none {l : List Po} (hg : o.guard = none) (m x : Operand) (hop : o.op = Op.lookup 58 m x true) (hm : a.eval m = .map (some b)) (h : MP.Mp w b l) {c d : Int} (hx : a.eval x = .agg #[.int .u32 c, .int .u32 d]) (hc : U32' c) (hd : U32' d) (e : MP.at l (c, d) = none)
    (hK : wpList Try.prog ops Q rest (a.put o.dst (.tuple #[.agg (EP.cells zeroPo).toArray, .bool false])) w) : wpList Try.prog ops Q (o :: rest) a w :=
  wpl9_look w hg m x _ hop Try.underlying58 (zero_po w) hm h (c := (c, d)) hx ⟨hc, hd⟩ (by rw [e]; exact hK)
end
set_option maxRecDepth 100000 in
set_option maxHeartbeats 4000000 in
theorem lget9 {g ba bp : Nat} {L : Lg} (n : Int) (w : World) (h : Dl w g ba bp L) (hn : U32' n) :
    Calls Try.prog 11 #[.pointer (some ⟨g, 0, none⟩), .int .u32 n] w fun e w' => e = .returned (.tuple #[.agg (EA.cells (getL L n).1).toArray, .int .i64 (getL L n).2]) ∧ Below w.heap.size w w' := by
  have hz := zero_ac
  obtain ⟨W1, hW1, b1, x1⟩ := newA9 w
  have h1 := h.below b1
  have c0 := h1.c0
  have c1 := h1.c1
  have MS := Lib.hid (lmiss9 h1)
  have HW := Lib.hid hW1
  have X1 := Lib.hid x1
  have B1 := Lib.hid b1
  obtain ⟨W2, hW2, b2, x2⟩ := newA9 W1
  have HW2 := Lib.hid hW2
  have X2 := Lib.hid x2
  have B2 := Lib.hid b2
  have M1 := Lib.hid h1.ma
  have HN := Lib.hid hn
  rcases getL_cases L n with ⟨e0, E⟩ | ⟨e0, ea, E⟩ | ⟨a, e0, ea, ha, hna, E⟩ <;> rw [E]
  · have hd : decide (n = 0) = true := decide_eq_true e0
    generalize L.fund = fu at *
    clear h h1 b1 x1 hW1 hW2 b2 x2 E HN hn
    subst e0
    go_enter Try.func11, Try.ntmps11
    go_wp2_with fail
    rw [HW.out]
    refine MS.out.mono ?_; rintro e w2 ⟨rfl, rfl⟩
    go_wp2_with (first | (refine gwl_store TA ⟨0, fu, false, false⟩ w.heap.size X1.out rfl rfl ?_))
    exact bodyPost_ret (gret TA rfl _ _ w.heap.size rfl rfl (gbx_set X1.out)) rfl ⟨rfl, below_row0 B1.out (Nat.le_refl _)⟩
  · have hd : decide (n = 0) = false := decide_eq_false e0
    have hd2 : (n == 0) = false := by simpa using e0
    have EA' := Lib.hid ea
    clear h h1 b1 x1 hW1 hW2 b2 x2 E hn ea
    go_enter Try.func11, Try.ntmps11
    go_wp2_with fail
    rw [HW.out]
    refine MS.out.mono ?_; rintro e w2 ⟨rfl, rfl⟩
    have X12 := Lib.hid (gbx_below X1.out B2.out)
    have X3 : Hid (EA.Bx 33 (W2.setRow W1.heap.size (EA.cells zeroAc).toArray) w.heap.size zeroAc) := Lib.hid (((fr_row (S := fun k => k = W1.heap.size) (W := W2) rfl (EA.cells zeroAc).toArray).at' w.heap.size (Array.getElem?_eq_some_iff.1 X12.out).1 (by have := (Array.getElem?_eq_some_iff.1 X1.out).1; omega)).trans X12.out)
    go_wp2_with (first | (at_lookup; refine wlA_none rfl _ _ rfl rfl M1.out rfl HN.out EA'.out ?_) | (refine gwl_build0 built_ac ?_) | (refine gwl_store TA zeroAc W1.heap.size X2.out rfl rfl ?_) | (rw [HW2.out]; refine gwl_store TA zeroAc W1.heap.size X2.out rfl rfl ?_) | (refine gwl_store TA zeroAc w.heap.size X3.out rfl rfl ?_))
    exact bodyPost_ret (gret TA rfl _ _ w.heap.size rfl rfl (gbx_set X3.out)) rfl ⟨rfl, below_row0 (below_row0 (B1.out.trans (B2.out.mono B1.out.size)) B1.out.size) (Nat.le_refl _)⟩
  · have hd : decide (n = 0) = false := decide_eq_false e0
    have hd2 : (n == 0) = false := by simpa using e0
    have EA' := Lib.hid ea
    clear h h1 b1 x1 hW1 hW2 b2 x2 E hn ea
    go_enter Try.func11, Try.ntmps11
    go_wp2_with fail
    rw [HW.out]
    refine MS.out.mono ?_; rintro e w2 ⟨rfl, rfl⟩
    have X12 := Lib.hid (gbx_below X1.out B2.out)
    have X3 : Hid (EA.Bx 33 (W2.setRow W1.heap.size (EA.cells a).toArray) w.heap.size zeroAc) := Lib.hid (((fr_row (S := fun k => k = W1.heap.size) (W := W2) rfl (EA.cells a).toArray).at' w.heap.size (Array.getElem?_eq_some_iff.1 X12.out).1 (by have := (Array.getElem?_eq_some_iff.1 X1.out).1; omega)).trans X12.out)
    have R2 := Lib.hid (gbx_rng (gbx_set (x := a) X2.out))
    go_wp2_with (first | (at_lookup; refine wlA_some rfl _ _ rfl rfl M1.out rfl HN.out EA'.out ?_) | (refine gwl_store TA a W1.heap.size X2.out rfl rfl ?_) | (rw [HW2.out]; refine gwl_store TA a W1.heap.size X2.out rfl rfl ?_) | ((with_reducible refine gwl_load TA W1.heap.size 0 R2.out ?_ ?_ ?_); rfl; rfl) | (refine gwl_store TA a w.heap.size X3.out rfl rfl ?_))
    exact bodyPost_ret (gret TA rfl _ _ w.heap.size rfl rfl (gbx_set X3.out)) rfl ⟨rfl, below_row0 (below_row0 (B1.out.trans (B2.out.mono B1.out.size)) B1.out.size) (Nat.le_refl _)⟩
end Go.Proofs.Ythnmpnepgagmmaa
