/- GateFlags, walked. -/
import Derived.Test.YtmelpikncdnloaaGtk
import Derived.Test.YtmelpikncdnloaaGtc
import Derived.Test.YtmelpikncdnloaaGtd
namespace Go.Proofs.Ytmelpikncdnloaa
open Go.RowKit
set_option linter.unusedVariables false
set_option linter.unusedSimpArgs false

section
variable {ops : Array Oper} {rest : List Oper} {a : Act} {w : World} {Q : Exit → Act → World → Prop} {d : Option Nat} {x y : Operand} {ty : TypeId} {ps : String} {af : Array Edge}
theorem wl_stac {g : Gt} {b : Nat} {te : TypeId} (hb : EG.Bx te w b g) (nu ca : Int) (ki de : Bool) (hx : a.eval x = .pointer (some ⟨b, 27, none⟩)) (hy : a.eval y = .agg #[.int .u32 nu, .int .i64 ca, .bool ki, .bool de])
    (h : wpList Try.prog ops Q rest (a.put d undef) (w.setCells b 27 [.int .u32 nu, .int .i64 ca, .bool ki, .bool de])) : wpList Try.prog ops Q (⟨d, .store 30 x y, ty, ps, af, none⟩ :: rest) a w :=
  wpList_store_mid rfl 30 x y rfl b 27 #[.int .u32 nu, .int .i64 ca, .bool ki, .bool de] hx hy (gt_there hb) TAc.size (gall_one (E := EAc) ⟨nu, ca, ki, de⟩) h
end
/-- Halted, or expired: nobody passes. -/
def flagG (g : Gt) (st : Int) : Gt := { g with st := st, nu := 1, ca := 0, ki := false, de := false }
theorem flag_3 (g : Gt) : chk (flagG g 3) = 50 := by unfold chk flagG; rfl
theorem flag_2 (g : Gt) : chk (flagG g 2) = 122 := by unfold chk flagG; rfl
theorem flag_d (g : Gt) : chk { g with de := true } = 120 := by unfold chk; rfl
theorem flag_k (g : Gt) : chk { g with de := false, ki := true } = 121 := by unfold chk; rfl
theorem flag_ok {g : Gt} (ok : g.ok) {st : Int} (h : 0 ≤ st ∧ st ≤ 255) : (flagG g st).ok := by
  refine ⟨ok.sp, h, ok.pr, ?_, ?_, ok.q, ok.bu, ok.se, ok.px, ok.qt⟩ <;> simp [flagG, I64]

set_option maxRecDepth 100000 in
set_option maxHeartbeats 8000000 in
theorem flags12_all (K : GateK) (g : Gt) (k : Int) (w : World) (ok : g.ok) (hk : 0 ≤ k ∧ k ≤ 255) : Calls Try.prog 5 #[.agg (EG.cells g).toArray, .int .u8 k] w fun e w' => e = .returned (.bool true) ∧ Below w.heap.size w w' := by
  have hzg := zero_g12
  obtain ⟨W1, hW1⟩ : ∃ W1, w.alloc (.cells (EG.cells g).toArray 32) = W1 := ⟨_, rfl⟩
  have x1 : EG.Bx 32 W1 w.heap.size g := by rw [← hW1]; exact gbx_new w _
  have b1 : Below w.heap.size w W1 := by rw [← hW1]; exact below_new w _
  obtain ⟨W2, hW2⟩ : ∃ W, (W1.alloc (.cells (EG.cells zeroGt).toArray 32)).setRow W1.heap.size (EG.cells g).toArray = W := ⟨_, rfl⟩
  have N1 := Lib.hid (gbx_new (E := EG) (te := 32) W1 zeroGt)
  have x2 : EG.Bx 32 W2 W1.heap.size g := by rw [← hW2]; exact gt_new W1 g
  have b2 : Below W1.heap.size W1 W2 := by rw [← hW2]; exact gt_newb W1 g
  have c2 : W2.cell? ⟨W1.heap.size, 30, none⟩ = some (.bool g.de) := gt_at x2 (j := 5) rfl
  have f2 := gbx_fz x2 30
  obtain ⟨W3, hW3⟩ : ∃ W, W2.setCell ⟨W1.heap.size, 30, none⟩ (.bool true) = W := ⟨_, rfl⟩
  have x3 : EG.Bx 32 W3 W1.heap.size { g with de := true } := by rw [← hW3]; exact gt_put x2 (j := 5) _ rfl rfl
  have b3 : Below W1.heap.size W1 W3 := by rw [← hW3]; exact b2.setCell (Nat.le_refl _) _
  obtain ⟨W4, hW4⟩ : ∃ W, (W3.alloc (.cells (EG.cells zeroGt).toArray 32)).setRow W3.heap.size (EG.cells g).toArray = W := ⟨_, rfl⟩
  have N3 := Lib.hid (gbx_new (E := EG) (te := 32) W3 zeroGt)
  have x4 : EG.Bx 32 W4 W3.heap.size g := by rw [← hW4]; exact gt_new W3 g
  have b4 : Below W3.heap.size W3 W4 := by rw [← hW4]; exact gt_newb W3 g
  have c4 : W4.cell? ⟨W3.heap.size, 30, none⟩ = some (.bool g.de) := gt_at x4 (j := 5) rfl
  have f4 := gbx_fz x4 30
  obtain ⟨W5, hW5⟩ : ∃ W, W4.setCell ⟨W3.heap.size, 30, none⟩ (.bool false) = W := ⟨_, rfl⟩
  have x5 : EG.Bx 32 W5 W3.heap.size { g with de := false } := by rw [← hW5]; exact gt_put x4 (j := 5) _ rfl rfl
  have b5 : Below W3.heap.size W3 W5 := by rw [← hW5]; exact b4.setCell (Nat.le_refl _) _
  have c5 : W5.cell? ⟨W3.heap.size, 29, none⟩ = some (.bool g.ki) := gt_at x5 (j := 4) rfl
  have f5 := gbx_fz x5 29
  obtain ⟨W6, hW6⟩ : ∃ W, W5.setCell ⟨W3.heap.size, 29, none⟩ (.bool true) = W := ⟨_, rfl⟩
  have x6 : EG.Bx 32 W6 W3.heap.size { g with de := false, ki := true } := by rw [← hW6]; exact gt_put x5 (j := 4) _ rfl rfl
  have b6 : Below W3.heap.size W3 W6 := by rw [← hW6]; exact b5.setCell (Nat.le_refl _) _
  obtain ⟨W7, hW7⟩ : ∃ W, (W6.alloc (.cells (EG.cells zeroGt).toArray 32)).setRow W6.heap.size (EG.cells g).toArray = W := ⟨_, rfl⟩
  have N6 := Lib.hid (gbx_new (E := EG) (te := 32) W6 zeroGt)
  have x7 : EG.Bx 32 W7 W6.heap.size g := by rw [← hW7]; exact gt_new W6 g
  have b7 : Below W6.heap.size W6 W7 := by rw [← hW7]; exact gt_newb W6 g
  obtain ⟨W8, hW8⟩ : ∃ W, W7.setCells W6.heap.size 27 [.int .u32 1, .int .i64 0, .bool false, .bool false] = W := ⟨_, rfl⟩
  have x8 : EG.Bx 32 W8 W6.heap.size { g with nu := 1, ca := 0, ki := false, de := false } := by rw [← hW8]; exact gt_acput x7
  have b8 : Below W6.heap.size W6 W8 := by rw [← hW8]; exact below_cells (Nat.le_refl _) _ _ _ b7
  have c8 : W8.cell? ⟨W6.heap.size, 25, none⟩ = some (.int .u8 g.st) := gt_at x8 (j := 0) rfl
  have f8 := gbx_fz x8 25
  obtain ⟨W9, hW9⟩ : ∃ W, W8.setCell ⟨W6.heap.size, 25, none⟩ (.int .u8 2) = W := ⟨_, rfl⟩
  have x9 : EG.Bx 32 W9 W6.heap.size (flagG g 2) := by rw [← hW9]; exact gt_put x8 (j := 0) _ rfl rfl
  have b9 : Below W6.heap.size W6 W9 := by rw [← hW9]; exact b8.setCell (Nat.le_refl _) _
  have c9 : W9.cell? ⟨W6.heap.size, 25, none⟩ = some (.int .u8 2) := gt_at x9 (j := 0) rfl
  have f9 := gbx_fz x9 25
  obtain ⟨W10, hW10⟩ : ∃ W, W9.setCell ⟨W6.heap.size, 25, none⟩ (.int .u8 3) = W := ⟨_, rfl⟩
  have x10 : EG.Bx 32 W10 W6.heap.size (flagG g 3) := by rw [← hW10]; exact gt_put x9 (j := 0) _ rfl rfl
  have b10 : Below W6.heap.size W6 W10 := by rw [← hW10]; exact b9.setCell (Nat.le_refl _) _
  have p3 := b1.trans (b3.mono b1.size)
  have p6 := p3.trans (b6.mono p3.size)
  have p9 := p6.trans (b9.mono p6.size)
  have p10 := p6.trans (b10.mono p6.size)
  have R1 := Lib.hid (gbx_rng x1)
  have R3 := Lib.hid (gbx_rng (gbx_below x1 b3))
  have b36 := b3.trans (b6.mono b3.size)
  have R6 := Lib.hid (gbx_rng (gbx_below x1 b36))
  have D6 := gbx_below x3 b6
  have D9 := Lib.hid (gbx_below D6 b9)
  have D10 := Lib.hid (gbx_below D6 b10)
  have Y9 := Lib.hid (gbx_below x6 b9)
  have Y10 := Lib.hid (gbx_below x6 b10)
  have X7 := Lib.hid x7
  have X9 := Lib.hid x9
  have X10 := Lib.hid x10
  have P9 := Lib.hid p9
  have P10 := Lib.hid p10
  have HW1 := Lib.hid hW1
  have HW2 := Lib.hid hW2
  have HW3 := Lib.hid hW3
  have HW4 := Lib.hid hW4
  have HW5 := Lib.hid hW5
  have HW6 := Lib.hid hW6
  have HW7 := Lib.hid hW7
  have HW8 := Lib.hid hW8
  have HW9 := Lib.hid hW9
  have HW10 := Lib.hid hW10
  have C2 := Lib.hid fun W => K.check (flagG g 2) W (flag_ok ok (by omega))
  have C3 := Lib.hid fun W => K.check (flagG g 3) W (flag_ok ok (by omega))
  have CD := Lib.hid fun W => K.check { g with de := true } W ⟨ok.sp, ok.st, ok.pr, ok.nu, ok.ca, ok.q, ok.bu, ok.se, ok.px, ok.qt⟩
  have CK := Lib.hid fun W => K.check { g with de := false, ki := true } W ⟨ok.sp, ok.st, ok.pr, ok.nu, ok.ca, ok.q, ok.bu, ok.se, ok.px, ok.qt⟩
  have KN := Lib.hid fun W => known12 K W
  rw [flag_2] at C2
  rw [flag_3] at C3
  rw [flag_d] at CD
  rw [flag_k] at CK
  clear K ok x1 x2 x3 x4 x5 x6 x7 x8 x9 x10 b1 b2 b3 b4 b5 b6 b7 b8 b9 b10 p3 p6 p9 p10 b36 D6 hW1 hW2 hW3 hW4 hW5 hW6 hW7 hW8 hW9 hW10
  go_enter Try.func5, Try.ntmps5
  have hm : k % 2 = 0 ∨ k % 2 = 1 := by omega
  rcases hm with hm | hm
  · have em : k.tmod 2 = 0 := by rw [Int.tmod_eq_emod_of_nonneg hk.1]; exact hm
    go_wp2_with (first
      | (rw [HW1.out])
      | ((with_reducible refine rwl_load TG w.heap.size 0 R1.out ?_ ?_ ?_); rfl; rfl)
      | ((with_reducible refine rwl_store TG g W1.heap.size N1.out ?_ ?_ ?_); rfl; rfl; rw [HW2.out])
      | (rw [HW3.out])
      | ((with_reducible refine rwl_load TG w.heap.size 0 R3.out ?_ ?_ ?_); rfl; rfl)
      | ((with_reducible refine rwl_store TG g W3.heap.size N3.out ?_ ?_ ?_); rfl; rfl; rw [HW4.out])
      | (rw [HW5.out])
      | (rw [HW6.out])
      | ((with_reducible refine rwl_load TG w.heap.size 0 R6.out ?_ ?_ ?_); rfl; rfl)
      | ((with_reducible refine rwl_store TG g W6.heap.size N6.out ?_ ?_ ?_); rfl; rfl; rw [HW7.out])
      | (with_reducible refine wl_ab12 ?_)
      | ((with_reducible refine wl_stac X7.out 1 0 false false ?_ ?_ ?_); rfl; rfl; rw [HW8.out])
      | (rw [HW9.out])
      | (rw [HW10.out])
      | ((with_reducible refine rwl_load TG W6.heap.size 0 (gbx_rng X10.out) ?_ ?_ ?_); rfl; rfl))
    refine (C3.out _).mono ?_; rintro e w11 ⟨rfl, q11⟩
    have S11 := Lib.hid (gbx_rng (gbx_below D10.out q11))
    have Q11 := Lib.hid q11
    clear q11
    go_wp2_with ((with_reducible refine rwl_load TG W1.heap.size 0 S11.out ?_ ?_ ?_); rfl; rfl)
    refine (CD.out _).mono ?_; rintro e w12 ⟨rfl, q12⟩
    have Q12 := Lib.hid (Q11.out.trans (q12.mono Q11.out.size))
    have S12 := Lib.hid (gbx_rng (gbx_below Y10.out Q12.out))
    clear q12
    go_wp2_with ((with_reducible refine rwl_load TG W3.heap.size 0 S12.out ?_ ?_ ?_); rfl; rfl)
    refine (CK.out _).mono ?_; rintro e w13 ⟨rfl, q13⟩
    have Q13 := Lib.hid (Q12.out.trans (q13.mono Q12.out.size))
    clear q13
    go_wp2_with fail
    refine (KN.out _).mono ?_; rintro e w14 ⟨rfl, q14⟩
    have Q14 := Lib.hid (Q13.out.trans (q14.mono Q13.out.size))
    clear q14
    go_wp2_with fail
    go_ret
    exact ⟨rfl, P10.out.trans (Q14.out.mono P10.out.size)⟩
  · have em : k.tmod 2 = 1 := by rw [Int.tmod_eq_emod_of_nonneg hk.1]; exact hm
    go_wp2_with (first
      | (rw [HW1.out])
      | ((with_reducible refine rwl_load TG w.heap.size 0 R1.out ?_ ?_ ?_); rfl; rfl)
      | ((with_reducible refine rwl_store TG g W1.heap.size N1.out ?_ ?_ ?_); rfl; rfl; rw [HW2.out])
      | (rw [HW3.out])
      | ((with_reducible refine rwl_load TG w.heap.size 0 R3.out ?_ ?_ ?_); rfl; rfl)
      | ((with_reducible refine rwl_store TG g W3.heap.size N3.out ?_ ?_ ?_); rfl; rfl; rw [HW4.out])
      | (rw [HW5.out])
      | (rw [HW6.out])
      | ((with_reducible refine rwl_load TG w.heap.size 0 R6.out ?_ ?_ ?_); rfl; rfl)
      | ((with_reducible refine rwl_store TG g W6.heap.size N6.out ?_ ?_ ?_); rfl; rfl; rw [HW7.out])
      | (with_reducible refine wl_ab12 ?_)
      | ((with_reducible refine wl_stac X7.out 1 0 false false ?_ ?_ ?_); rfl; rfl; rw [HW8.out])
      | (rw [HW9.out])
      | ((with_reducible refine rwl_load TG W6.heap.size 0 (gbx_rng X9.out) ?_ ?_ ?_); rfl; rfl))
    refine (C2.out _).mono ?_; rintro e w11 ⟨rfl, q11⟩
    have S11 := Lib.hid (gbx_rng (gbx_below D9.out q11))
    have Q11 := Lib.hid q11
    clear q11
    go_wp2_with ((with_reducible refine rwl_load TG W1.heap.size 0 S11.out ?_ ?_ ?_); rfl; rfl)
    refine (CD.out _).mono ?_; rintro e w12 ⟨rfl, q12⟩
    have Q12 := Lib.hid (Q11.out.trans (q12.mono Q11.out.size))
    have S12 := Lib.hid (gbx_rng (gbx_below Y9.out Q12.out))
    clear q12
    go_wp2_with ((with_reducible refine rwl_load TG W3.heap.size 0 S12.out ?_ ?_ ?_); rfl; rfl)
    refine (CK.out _).mono ?_; rintro e w13 ⟨rfl, q13⟩
    have Q13 := Lib.hid (Q12.out.trans (q13.mono Q12.out.size))
    clear q13
    go_wp2_with fail
    refine (KN.out _).mono ?_; rintro e w14 ⟨rfl, q14⟩
    have Q14 := Lib.hid (Q13.out.trans (q14.mono Q13.out.size))
    clear q14
    go_wp2_with fail
    go_ret
    exact ⟨rfl, P9.out.trans (Q14.out.mono P9.out.size)⟩
end Go.Proofs.Ytmelpikncdnloaa
