/- The statements' 'play' of stage 7, given the program's book. -/
import Derived.Test.YtdcjgcjnfcahkaaG13
import Derived.Test.YtdcjgcjnfcahkaaG24
import Derived.Test.YtdcjgcjnfcahkaaG07
namespace Go.Proofs.Ytdcjgcjnfcahkaa
open Go.RowKit Go.Shelf
set_option linter.unusedVariables false
set_option linter.unusedSimpArgs false

def playS (S : Sd) (x : Op7) : Sd :=
  if x.kd = 1 then placeS S x.o x.k else if x.kd = 2 then replS S x.o.nu x.o.pr x.o.le else if x.kd = 3 then cancS S x.o.nu else if x.kd = 4 then massS S x.o.ac else S
theorem aftB_from {Pb : PbT} {w W w' : World} {A : Nat → Prop} {G : Nat} {S : Sd} {t : Nat} (q : Below w.heap.size w W) (h : AftB Pb W A G S t w') : AftB Pb w A G S t w' := by
  obtain ⟨A', h1, h2, h3⟩ := h
  exact ⟨A', h1, (Fr.below q).same h2, fun k hk => (h3 k hk).imp id fun c => Nat.le_trans q.size c⟩
theorem AftB.more {Pb : PbT} (K : BookK Pb) {w w' : World} {A : Nat → Prop} {G : Nat} {S : Sd} {t t' : Nat} (h : AftB Pb w A G S t w') (ht : t ≤ t') : AftB Pb w A G S t' w' := by
  obtain ⟨A', h1, h2, h3⟩ := h
  exact ⟨A', K.more h1 ht, h2, h3⟩
theorem op_new (w : World) (x : Op7) : ∃ W1, w.alloc (.cells (EOp.cells x).toArray 34) = W1 ∧ Below w.heap.size w W1 ∧ EOp.Bx 34 W1 w.heap.size x := ⟨_, rfl, below_new w _, gbx_new w x⟩
set_option maxRecDepth 100000 in
set_option maxHeartbeats 4000000 in
theorem play7_any {Pb : PbT} (K : BookK Pb) {w : World} {A : Nat → Prop} {G : Nat} {S : Sd} {t : Nat} {x : Op7} (h : Pb w A G S t) (ok : x.ok) (ht : t < 1000000000) :
    Calls Try.prog 25 #[.pointer (some ⟨G, 0, none⟩), .agg (EOp.cells x).toArray] w fun e w' => (∃ v, e = .returned v) ∧ AftB Pb w A G (playS S x) (t + 1) w' := by
  obtain ⟨W1, hW1, b1, x1⟩ := op_new w x
  have KH := Lib.hid K
  have HW := Lib.hid hW1
  have B1 := Lib.hid b1
  have H1 := Lib.hid (K.below h b1)
  have OK := Lib.hid ok
  have RG0 : Hid (W1.rangeAt w.heap.size 1 (EO.cells x.o)) := Lib.hid (by have := op_or (gbx_rng x1); rwa [Nat.zero_add] at this)
  have RG : Hid ((w.alloc (.cells (EOp.cells x).toArray 34)).rangeAt w.heap.size 1 (EO.cells x.o)) := Lib.hid (by rw [hW1]; exact RG0.out)
  have c0 : (w.alloc (.cells (EOp.cells x).toArray 34)).cell? ⟨w.heap.size, 0, none⟩ = some (.int .i64 x.kd) := by rw [hW1]; exact gbx_cell x1 0
  have c1 : (w.alloc (.cells (EOp.cells x).toArray 34)).cell? ⟨w.heap.size, 1, none⟩ = some (.int .u64 x.o.nu) := by rw [hW1]; exact gbx_cell x1 1
  have c2 : (w.alloc (.cells (EOp.cells x).toArray 34)).cell? ⟨w.heap.size, 2, none⟩ = some (.int .u32 x.o.ac) := by rw [hW1]; exact gbx_cell x1 2
  have c4 : (w.alloc (.cells (EOp.cells x).toArray 34)).cell? ⟨w.heap.size, 4, none⟩ = some (.int .i64 x.o.pr) := by rw [hW1]; exact gbx_cell x1 4
  have c5 : (w.alloc (.cells (EOp.cells x).toArray 34)).cell? ⟨w.heap.size, 5, none⟩ = some (.int .i64 x.o.le) := by rw [hW1]; exact gbx_cell x1 5
  have c6 : (w.alloc (.cells (EOp.cells x).toArray 34)).cell? ⟨w.heap.size, 6, none⟩ = some (.int .u8 x.k) := by rw [hW1]; exact gbx_cell x1 6
  have PS : Hid (playS S x = if x.kd = 1 then placeS S x.o x.k else if x.kd = 2 then replS S x.o.nu x.o.pr x.o.le else if x.kd = 3 then cancS S x.o.nu else if x.kd = 4 then massS S x.o.ac else S) := Lib.hid rfl
  clear K h ok hW1 b1 x1
  by_cases k1 : x.kd = 1
  · have e1 : (x.kd == 1) = true := beq_iff_eq.2 k1
    rw [PS.out, if_pos k1]
    clear PS k1 c1 c2 c4 c5
    go_enter Try.func25, Try.ntmps25
    go_wp2_with ((with_reducible refine gwl_load TO w.heap.size 1 RG.out ?_ ?_ ?_); rfl; rfl)
    rw [HW.out]
    refine (KH.out.place H1.out OK.out.o ht).mono ?_; rintro e w2 ⟨p, rfl, pl⟩
    have AF := Lib.hid (aftB_from B1.out pl.aft)
    clear pl
    go_wp2_with fail
    exact bodyPost_end (results_none rfl _ _ _) rfl ⟨⟨_, rfl⟩, AF.out⟩
  have e1 : (x.kd == 1) = false := beq_eq_false_iff_ne.2 k1
  by_cases k2 : x.kd = 2
  · have e2 : (x.kd == 2) = true := beq_iff_eq.2 k2
    rw [PS.out, if_neg k1, if_pos k2]
    clear PS k1 k2 c2 c6
    go_enter Try.func25, Try.ntmps25
    go_wp2_with fail
    rw [HW.out]
    refine (KH.out.repl H1.out OK.out.o.nu OK.out.o.pr OK.out.o.le ht).mono ?_; rintro e w2 ⟨p, rfl, pl⟩
    have AF := Lib.hid (aftB_from B1.out pl.aft)
    clear pl
    go_wp2_with fail
    exact bodyPost_end (results_none rfl _ _ _) rfl ⟨⟨_, rfl⟩, AF.out⟩
  have e2 : (x.kd == 2) = false := beq_eq_false_iff_ne.2 k2
  by_cases k3 : x.kd = 3
  · have e3 : (x.kd == 3) = true := beq_iff_eq.2 k3
    rw [PS.out, if_neg k1, if_neg k2, if_pos k3]
    clear PS k1 k2 k3 c2 c4 c5 c6
    go_enter Try.func25, Try.ntmps25
    go_wp2_with fail
    rw [HW.out]
    refine (KH.out.canc H1.out OK.out.o.nu).mono ?_; rintro e w2 ⟨rfl, pl⟩
    have AF := Lib.hid ((aftB_from B1.out pl).more KH.out (Nat.le_succ t))
    clear pl
    go_wp2_with fail
    exact bodyPost_end (results_none rfl _ _ _) rfl ⟨⟨_, rfl⟩, AF.out⟩
  have e3 : (x.kd == 3) = false := beq_eq_false_iff_ne.2 k3
  by_cases k4 : x.kd = 4
  · have e4 : (x.kd == 4) = true := beq_iff_eq.2 k4
    rw [PS.out, if_neg k1, if_neg k2, if_neg k3, if_pos k4]
    clear PS k1 k2 k3 k4 c1 c4 c5 c6
    go_enter Try.func25, Try.ntmps25
    go_wp2_with fail
    rw [HW.out]
    refine (KH.out.mass H1.out).mono ?_; rintro e w2 ⟨u, rfl, _, A', h1, h2, h3, _⟩
    have AF : Hid (AftB Pb w A G (massS S x.o.ac) (t + 1) w2) := Lib.hid ((aftB_from B1.out ⟨A', h1, h2, h3⟩).more KH.out (Nat.le_succ t))
    clear h1 h2 h3
    go_wp2_with fail
    exact bodyPost_end (results_none rfl _ _ _) rfl ⟨⟨_, rfl⟩, AF.out⟩
  have e4 : (x.kd == 4) = false := beq_eq_false_iff_ne.2 k4
  rw [PS.out, if_neg k1, if_neg k2, if_neg k3, if_neg k4]
  clear PS k1 k2 k3 k4 c1 c2 c4 c5 c6
  have AF : Hid (AftB Pb w A G S (t + 1) W1) := Lib.hid ((aftB_from B1.out (AftB.below KH.out H1.out (Below.refl _ _))).more KH.out (Nat.le_succ t))
  go_enter Try.func25, Try.ntmps25
  go_wp2_with fail
  rw [HW.out]
  exact bodyPost_end (results_none rfl _ _ _) rfl ⟨⟨_, rfl⟩, AF.out⟩
theorem playS_inv {S : Sd} {x : Op7} (h : InvB S) (ok : x.ok) : InvB (playS S x) := by
  unfold playS
  split
  · exact h.place ok.o
  · split
    · exact h.repl ok.o.pr ok.o.le
    · split
      · exact h.canc
      · split
        · exact h.mass
        · exact h
end Go.Proofs.Ytdcjgcjnfcahkaa
