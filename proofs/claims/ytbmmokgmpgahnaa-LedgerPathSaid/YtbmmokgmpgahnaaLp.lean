/- The statements' 'play' of stage 9. -/
import Derived.Test.YtbmmokgmpgahnaaLe
import Derived.Test.YtbmmokgmpgahnaaMr
namespace Go.Proofs.Ytbmmokgmpgahnaa
open Go.RowKit Go.Shelf
set_option linter.unusedVariables false
set_option linter.unusedSimpArgs false

def playL (L : Lg) (y : OpL) : Lg :=
  if y.kd = 1 then depL L y.a y.n else if y.kd = 2 then witL L y.a y.n else if y.kd = 5 then traL L y.c y.a y.b y.n y.m else if y.kd = 6 then marL L y.c y.n y.x.ki else L
def playN (L : Lg) (y : OpL) : Int :=
  if y.kd = 1 then (if depE L y.a y.n = 0 then y.n else 0) else if y.kd = 2 then (if witE L y.a y.n = 0 then -y.n else 0) else 0
theorem op9_new (w : World) (x : OpL) : ∃ W1, w.alloc (.cells (EOp9.cells x).toArray 35) = W1 ∧ Below w.heap.size w W1 ∧ EOp9.Bx 35 W1 w.heap.size x := ⟨_, rfl, below_new w _, gbx_new w x⟩
theorem wit_n {L : Lg} {n m : Int} (h : witE L n m = 0) : 1 ≤ m ∧ m ≤ mF := by
  unfold witE at h
  split at h
  · cases h
  · rename_i c
    have : oneB m mF ≠ false := fun k => c (.inr k)
    simpa [oneB] using this
set_option maxRecDepth 100000 in
set_option maxHeartbeats 4000000 in
theorem play9 {w : World} {g ba bp : Nat} {L : Lg} {x : OpL} (h : Dl w g ba bp L) (ok : x.ok) :
    Calls Try.prog 30 #[.pointer (some ⟨g, 0, none⟩), .agg (EOp9.cells x).toArray] w fun e w' => e = .returned (.int .i64 (playN L x)) ∧ AfL w g ba bp (playL L x) w' := by
  obtain ⟨W1, hW1, b1, x1⟩ := op9_new w x
  have HW := Lib.hid hW1
  have H0 := Lib.hid h
  have B1 := Lib.hid b1
  have H1 := Lib.hid (h.below b1)
  have OK := Lib.hid ok
  have c0 : (w.alloc (.cells (EOp9.cells x).toArray 35)).cell? ⟨w.heap.size, 0, none⟩ = some (.int .i64 x.kd) := by rw [hW1]; exact gbx_cell x1 0
  have d1 : W1.cell? ⟨w.heap.size, 1, none⟩ = some (.int .u32 x.a) := gbx_cell x1 1
  have d2 : W1.cell? ⟨w.heap.size, 2, none⟩ = some (.int .u32 x.b) := gbx_cell x1 2
  have d3 : W1.cell? ⟨w.heap.size, 3, none⟩ = some (.int .u32 x.c) := gbx_cell x1 3
  have d4 : W1.cell? ⟨w.heap.size, 4, none⟩ = some (.int .i64 x.n) := gbx_cell x1 4
  have d5 : W1.cell? ⟨w.heap.size, 5, none⟩ = some (.int .i64 x.m) := gbx_cell x1 5
  have d8 : W1.cell? ⟨w.heap.size, 8, none⟩ = some (.bool x.x.ki) := gbx_cell x1 8
  have c1 := hW1.symm ▸ d1
  have c2 := hW1.symm ▸ d2
  have c3 := hW1.symm ▸ d3
  have c4 := hW1.symm ▸ d4
  have c5 := hW1.symm ▸ d5
  have c8 := hW1.symm ▸ d8
  have PS : Hid (playL L x = if x.kd = 1 then depL L x.a x.n else if x.kd = 2 then witL L x.a x.n else if x.kd = 5 then traL L x.c x.a x.b x.n x.m else if x.kd = 6 then marL L x.c x.n x.x.ki else L) := Lib.hid rfl
  have PN : Hid (playN L x = if x.kd = 1 then (if depE L x.a x.n = 0 then x.n else 0) else if x.kd = 2 then (if witE L x.a x.n = 0 then -x.n else 0) else 0) := Lib.hid rfl
  have DEP := Lib.hid (ldep9 x.a x.n W1 H1.out ok.a)
  have WIT := Lib.hid (lwit9 x.a x.n W1 H1.out ok.a)
  have TRA := Lib.hid (ltra9 x.c x.a x.b x.n x.m W1 H1.out ok.c ok.a ok.b)
  have MAR := Lib.hid (lmark9 x.c x.n x.x.ki W1 H1.out ok.c)
  have WN := Lib.hid (fun h => wit_n (L := L) (n := x.a) (m := x.n) h)
  clear h ok hW1 b1 x1
  by_cases k1 : x.kd = 1
  · have e1 : (x.kd == 1) = true := beq_iff_eq.2 k1
    rw [PS.out, PN.out, if_pos k1, if_pos k1]
    clear PS PN k1 c2 c3 c5 c8 d2 d3 d5 d8
    obtain ⟨er, her⟩ : ∃ er, depE L x.a x.n = er := ⟨_, rfl⟩
    rw [her] at DEP ⊢
    clear her
    go_enter Try.func30, Try.ntmps30
    go_wp2_with fail
    rw [HW.out]
    refine DEP.out.mono ?_; rintro e w2 ⟨rfl, af⟩
    have AF := Lib.hid (AfL.then B1.out af)
    have c4' : w2.cell? ⟨w.heap.size, 4, none⟩ = some (.int .i64 x.n) := cell_fr d4 af.2 (fun k => Nat.lt_irrefl _ (H0.out.lt k))
    clear af
    by_cases z : er = 0
    · have z1 : (er == 0) = true := beq_iff_eq.2 z
      go_wp2_with fail
      go_ret
      exact ⟨by first | rfl | (rw [if_pos z]; rfl), AF.out⟩
    · have z1 : (er == 0) = false := beq_eq_false_iff_ne.2 z
      go_wp2_with fail
      go_ret
      exact ⟨by first | rfl | (rw [if_neg z]; rfl), AF.out⟩
  have e1 : (x.kd == 1) = false := beq_eq_false_iff_ne.2 k1
  by_cases k2 : x.kd = 2
  · have e2 : (x.kd == 2) = true := beq_iff_eq.2 k2
    rw [PS.out, PN.out, if_neg k1, if_neg k1, if_pos k2, if_pos k2]
    clear PS PN k1 k2 c2 c3 c5 c8 d2 d3 d5 d8
    obtain ⟨er, her⟩ : ∃ er, witE L x.a x.n = er := ⟨_, rfl⟩
    rw [her] at WIT WN ⊢
    clear her
    go_enter Try.func30, Try.ntmps30
    go_wp2_with fail
    rw [HW.out]
    refine WIT.out.mono ?_; rintro e w2 ⟨rfl, af⟩
    have AF := Lib.hid (AfL.then B1.out af)
    have c4' : w2.cell? ⟨w.heap.size, 4, none⟩ = some (.int .i64 x.n) := cell_fr d4 af.2 (fun k => Nat.lt_irrefl _ (H0.out.lt k))
    clear af
    by_cases z : er = 0
    · have z1 : (er == 0) = true := beq_iff_eq.2 z
      have wn := WN.out z
      simp only [mF] at wn
      have hw : wrap64 (-x.n) = -x.n := by unfold wrap64; omega
      clear wn
      go_wp2_with fail
      go_ret
      exact ⟨by first | rfl | (rw [if_pos z]; rfl), AF.out⟩
    · have z1 : (er == 0) = false := beq_eq_false_iff_ne.2 z
      go_wp2_with fail
      go_ret
      exact ⟨by first | rfl | (rw [if_neg z]; rfl), AF.out⟩
  have e2 : (x.kd == 2) = false := beq_eq_false_iff_ne.2 k2
  by_cases k3 : x.kd = 5
  · have e3 : (x.kd == 5) = true := beq_iff_eq.2 k3
    rw [PS.out, PN.out, if_neg k1, if_neg k1, if_neg k2, if_neg k2, if_pos k3]
    clear PS PN k1 k2 k3 c8 d8
    go_enter Try.func30, Try.ntmps30
    go_wp2_with fail
    rw [HW.out]
    refine TRA.out.mono ?_; rintro e w2 ⟨rfl, af⟩
    have AF := Lib.hid (AfL.then B1.out af)
    clear af
    go_wp2_with fail
    go_ret
    exact ⟨rfl, AF.out⟩
  have e3 : (x.kd == 5) = false := beq_eq_false_iff_ne.2 k3
  by_cases k4 : x.kd = 6
  · have e4 : (x.kd == 6) = true := beq_iff_eq.2 k4
    rw [PS.out, PN.out, if_neg k1, if_neg k1, if_neg k2, if_neg k2, if_neg k3, if_pos k4]
    clear PS PN k1 k2 k3 k4 c1 c2 c5
    go_enter Try.func30, Try.ntmps30
    go_wp2_with fail
    rw [HW.out]
    refine MAR.out.mono ?_; rintro e w2 ⟨v, rfl, _, af⟩
    have AF := Lib.hid (AfL.then B1.out af)
    clear af
    go_wp2_with fail
    go_ret
    exact ⟨rfl, AF.out⟩
  have e4 : (x.kd == 6) = false := beq_eq_false_iff_ne.2 k4
  rw [PS.out, PN.out, if_neg k1, if_neg k1, if_neg k2, if_neg k2, if_neg k3, if_neg k4]
  clear PS PN k1 k2 k3 k4 c1 c2 c3 c4 c5 c8
  have AF : Hid (AfL w g ba bp L W1) := Lib.hid ⟨H1.out, Fr.below B1.out⟩
  go_enter Try.func30, Try.ntmps30
  go_wp2_with fail
  rw [HW.out]
  go_ret
  exact ⟨rfl, AF.out⟩
end Go.Proofs.Ytbmmokgmpgahnaa
