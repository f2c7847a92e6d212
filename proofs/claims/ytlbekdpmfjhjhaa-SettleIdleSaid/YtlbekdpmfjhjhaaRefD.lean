/- Contracts of the document's plain numbers, part four: a number turned, and one read back as an int64 if it fits. -/
import Derived.Test.YtlbekdpmfjhjhaaRefC
import Derived.Deep.RegionHeld3
namespace Go.Proofs.Ytlbekdpmfjhjhaa
open Go.RowKit

/-- How a number is told. -/
theorem build_nm (b : Bool) (f : Nat → Int) : Try.prog.built 47 [(0, .bool b), (1, .agg (ar f))] = some (nm b f) := by kernel_rfl

/-! The laws of whole arrays and numbers, each with its operation written out, so that it is tried at no other. -/
section
variable {ops : Array Oper} {rest : List Oper} {a : Act} {w : World} {Q : Exit → Act → World → Prop} {d : Option Tmp} {ty : TypeId} {pos : String} {af : Array Edge}
theorem wl_build {x y : Operand} (b : Bool) (f : Nat → Int) (hx : a.eval x = .bool b) (hy : a.eval y = .agg (ar f)) (h : wpList Try.prog ops Q rest (a.put d (.agg (nm b f))) w) :
    wpList Try.prog ops Q ({ dst := d, op := .build 47 #[(0, x), (1, y)], type := ty, pos := pos, after := af, guard := none } :: rest) a w := by
  refine wpList_buildTo rfl 47 #[(0, x), (1, y)] rfl d rfl (nm b f) ?_ h
  rw [show ((#[(0, x), (1, y)] : Array (Nat × Operand)).map fun (i, x) => (i, a.eval x)).toList = [(0, a.eval x), (1, a.eval y)] from by simp, hx, hy]
  exact build_nm b f
theorem wl_load_ar {x : Operand} (b o : Nat) (f : Nat → Int) (hx : a.eval x = .pointer (some ⟨b, o, none⟩)) (hc : w.rangeAt b o (ar f).toList) (h : wpList Try.prog ops Q rest (a.put d (.agg (ar f))) w) :
    wpList Try.prog ops Q ({ dst := d, op := .load 45 x, type := ty, pos := pos, after := af, guard := none } :: rest) a w :=
  wpList_load_ar rfl 45 x rfl b o hx f _ hc Try.underlying45 rfl (by kernel_rfl) h
theorem wl_load_nm {x : Operand} (g : Nat) (s : Bool) (f : Nat → Int) (hx : a.eval x = .pointer (some ⟨g, 0, none⟩)) (r : Row w g 47 (nm s f)) (h : wpList Try.prog ops Q rest (a.put d (.agg (nm s f))) w) :
    wpList Try.prog ops Q ({ dst := d, op := .load 47 x, type := ty, pos := pos, after := af, guard := none } :: rest) a w :=
  wpList_load_row rfl 47 x rfl g hx 47 (nm s f) (0, 0) _ r Try.underlying47 rfl (by kernel_rfl) h
theorem wl_store_nm {x y : Operand} (g : Nat) (s s' : Bool) (f f' : Nat → Int) (hx : a.eval x = .pointer (some ⟨g, 0, none⟩)) (hy : a.eval y = .agg (nm s f)) (r : Row w g 47 (nm s' f')) (h : wpList Try.prog ops Q rest a (w.setRow g (nm s f))) :
    wpList Try.prog ops Q ({ dst := none, op := .store 47 x y, type := ty, pos := pos, after := af, guard := none } :: rest) a w :=
  wpList_store_row rfl 47 x y rfl g (nm s f) hx hy 47 _ r (by kernel_rfl) rfl (nm_one _ _) h
theorem wl_store_ar {x y : Operand} (g : Nat) (f f' : Nat → Int) (hx : a.eval x = .pointer (some ⟨g, 0, none⟩)) (hy : a.eval y = .agg (ar f)) (r : Row w g 45 (ar f')) (h : wpList Try.prog ops Q rest a (w.setRow g (ar f))) :
    wpList Try.prog ops Q ({ dst := none, op := .store 45 x y, type := ty, pos := pos, after := af, guard := none } :: rest) a w :=
  wpList_store_row rfl 45 x y rfl g (ar f) hx hy 45 _ r (by kernel_rfl) rfl (ar_one _) h
end


















/-- Whether a number fits. -/
def tO (x : Int) : Bool := decide (-9223372036854775808 ≤ x ∧ x ≤ 9223372036854775807)
theorem tO_in {x : Int} (h : I64 x) : tO x = true := decide_eq_true h
theorem tO_out {x : Int} (h : ¬ I64 x) : tO x = false := decide_eq_false h
theorem T4 : Rf.T 4 = 18446744073709551616 := by decide
theorem fits_T4 {N : Int} (h0 : 0 ≤ N) (h : N / Rf.T 4 = 0) : N < 18446744073709551616 := by
  have := Rf.split N 4
  have m := Rf.md_bd N 4
  rw [h, Int.mul_zero] at this
  rw [T4] at m
  omega
theorem big_T {N : Int} {j : Nat} (h0 : 0 ≤ N) (hj : 4 ≤ j) (h : N / Rf.T j ≠ 0) : 18446744073709551616 ≤ N := by
  rcases Int.lt_or_le N 18446744073709551616 with h' | h'
  · exfalso
    apply h
    refine Rf.small h0 ?_
    obtain ⟨m, rfl⟩ : ∃ m, j = 4 + m := ⟨j - 4, by omega⟩
    have h3 := Rf.T_pos m
    have h4 := Int.mul_le_mul_of_nonneg_left (show 1 ≤ Rf.T m by omega) (show 0 ≤ Rf.T 4 by decide)
    rw [Int.mul_one, ← Rf.T_add, T4] at h4
    omega
  · exact h'
theorem sgn_big (s : Bool) {N : Int} (h : 18446744073709551616 ≤ N) : ¬ I64 (sgn s N) := by
  unfold I64 sgn; split <;> omega
theorem ret2b {x x' : Int} {y y' : Bool} (h : x = x') (k : y = y') : Ending.returned (.tuple #[.int .i64 x, .bool y]) = Ending.returned (.tuple #[.int .i64 x', .bool y']) := by rw [h, k]

set_option maxHeartbeats 2000000 in
theorem int_any (s : Bool) (N : Int) (h0 : 0 ≤ N) (h1 : N < Rf.T 12) (w : World) :
    Calls Try.prog 32 #[.agg (nm s (dgs N))] w fun e w' => e = .returned (.tuple #[.int .i64 (tN (sgn s N)), .bool (tO (sgn s N))]) ∧ Quiet w w' := by
  have r0 := Row.new w 47 (nm s (dgs N))
  have H12 := Lib.hid (Rf.small h0 h1)
  have HZ := Lib.hid (fun W => zero_any s N h0 h1 W)
  have HR := Lib.hid r0
  clear h1 r0
  go_enter Try.func32, Try.ntmps32
  go_wp2_with fail
  go_loop [4, 5] (fun n i => ∃ k : Nat, k ≤ 12 ∧ i = .int .i64 ((k : Int) - 1) ∧ n = .int .u64 (N / Rf.T k) ∧ N / Rf.T (max k 4) = 0) (fun _ i => (intOf i + 1).toNat)
  case atStart => exact ⟨12, by omega, rfl, by rw [H12.out], H12.out⟩
  case round =>
    obtain ⟨k, hk, rfl, rfl, hT⟩ := hrel
    have HT := Lib.hid hT
    clear hT
    match k, hk, HT with
    | 0, _, HT =>
      rw [show ((0 : Nat) : Int) - 1 = -1 from rfl, Rf.at_zero]
      have hN := fits_T4 h0 HT.out
      clear H12
      have r0 := HR.out
      go_wp2_with (refine wpList_load_row rfl 47 _ rfl w.heap.size rfl 47 _ (0, 0) _ r0 Try.underlying47 rfl (by kernel_rfl) ?_)
      refine (HZ.out _).mono ?_; rintro e w1 ⟨rfl, hq⟩
      have r1 : Row w1 w.heap.size 47 (nm s (dgs N)) := r0.below hq.2 (by simp)
      have c0 := r1.sign
      have hq' := Lib.hid (((Quiet.refl w).alloc _ _).trans hq)
      clear hq r0 r1 HZ HR HT
      cases hz : decide (N = 0)
      · have hz' : 0 < N := by have : ¬ N = 0 := by simpa using hz
                               omega
        cases s
        · by_cases hb : N < 9223372036854775808
          · have I : I64 (sgn false N) := by unfold I64 sgn; simp; omega
            have E := Lib.hid I
            clear I
            go_wp2
            go_ret2
            exact ⟨ret2b (tN_in E.out).symm (tO_in E.out).symm, hq'.out⟩
          · have I : ¬ I64 (sgn false N) := by unfold I64 sgn; simp; omega
            have E := Lib.hid I
            clear I
            go_wp2
            go_ret2
            exact ⟨ret2b (tN_out E.out).symm (tO_out E.out).symm, hq'.out⟩
        · by_cases hb : N ≤ 9223372036854775808
          · have I : I64 (sgn true N) := by unfold I64 sgn; simp; omega
            have E := Lib.hid I
            clear I
            go_wp2
            go_ret2
            exact ⟨ret2b (by rw [tN_in E.out]; unfold sgn; simp; omega) (tO_in E.out).symm, hq'.out⟩
          · have I : ¬ I64 (sgn true N) := by unfold I64 sgn; simp; omega
            have E := Lib.hid I
            clear I
            go_wp2
            go_ret2
            exact ⟨ret2b (tN_out E.out).symm (tO_out E.out).symm, hq'.out⟩
      · have hz' : N = 0 := by simpa using hz
        have E : Hid (0 = tN (sgn s N) ∧ true = tO (sgn s N)) := Lib.hid (by subst hz'; cases s <;> exact ⟨rfl, rfl⟩)
        clear hz'
        go_wp2
        go_ret2
        exact ⟨ret2b E.out.1 E.out.2, hq'.out⟩
    | j + 1, hk, HT =>
      rw [show ((j + 1 : Nat) : Int) - 1 = (j : Int) from by omega]
      have c1 := HR.out.digit j (by omega)
      have b := dgs_bd N j
      obtain ⟨b1, b2⟩ := b
      have b3 := div_bd N (j + 1) h0
      obtain ⟨b3, b4⟩ := b3
      by_cases hj : 4 ≤ j
      · cases hd : (dgs N j != 0)
        · have E : Hid (N / Rf.T j = 0 ∧ N / Rf.T (j + 1) = 0 ∧ N / Rf.T (max j 4) = 0) := Lib.hid (by
            have h2 : N / Rf.T (j + 1) = 0 := by have := HT.out; rwa [show max (j + 1) 4 = j + 1 by omega] at this
            have h3 : N / Rf.T j = 0 := by rw [Rf.div_dg, h2, show Rf.dg N j = 0 from by (have : dgs N j = 0 := by simpa using hd); exact this]; rfl
            exact ⟨h3, h2, by rwa [show max j 4 = j by omega]⟩)
          rw [E.out.2.1]
          go_wp2
          go_round
          case rel => exact ⟨j, by omega, by go_num, by rw [E.out.1, show dgs N j = 0 from by simpa using hd], E.out.2.2⟩
          case measure => simp [intOf]
        · have hb : 18446744073709551616 ≤ N := big_T h0 hj (by
            intro h
            have hd' : dgs N j ≠ 0 := by simpa using hd
            apply hd'
            unfold dgs Rf.dg
            rw [h]; rfl)
          have E := Lib.hid (sgn_big s hb)
          clear hb
          go_wp2
          go_ret2
          exact ⟨ret2b (tN_out E.out).symm (tO_out E.out).symm, (Quiet.refl w).alloc _ _⟩
      · have hj' : j ≤ 3 := by omega
        have h4 := fits_T4 h0 (by have := HT.out; rwa [show max (j + 1) 4 = 4 by omega] at this)
        have hd := Rf.div_dg N j
        have h5 := div_bd N j h0
        have b5 : N / Rf.T (j + 1) * 65536 + dgs N j ≤ 18446744073709551615 := by unfold dgs; omega
        have E := Lib.hid hd
        have E4 := Lib.hid h4
        clear hd h5 h4
        go_wp2
        go_round
        case rel => exact ⟨j, by omega, by go_num, by rw [E.out]; rfl, by have := HT.out; rwa [show max (j + 1) 4 = max j 4 by omega] at this⟩
        case measure => simp [intOf]
end Go.Proofs.Ytlbekdpmfjhjhaa
