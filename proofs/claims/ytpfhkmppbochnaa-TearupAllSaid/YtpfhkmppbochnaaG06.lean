/- Texts of a proof, laid together: TimesMath, Times, OverMath, Over, Products, Plain. -/
import Derived.Deep.AppendLies
import Derived.Test.YtpfhkmppbochnaaG02
import Derived.Test.YtpfhkmppbochnaaG04
import Derived.Test.YtpfhkmppbochnaaG05
/- Plain arithmetic on numbers written in digits of 16 bits, no program: products digit by digit. -/
namespace Go.Proofs.Ytpfhkmppbochnaa
namespace Rf

theorem mul_mod (a q : Int) : ∃ z, a * q = 65536 * z + a * (q % 65536) := ⟨a * (q / 65536), by
  have e := Int.mul_ediv_add_emod q 65536
  conv => lhs; rw [← e]
  rw [Int.mul_add, Int.mul_left_comm]⟩
/-- The carry into digit i + k, where a times C, moved up by i digits, is added to E. -/
def mc (E C a : Int) (i k : Nat) : Int := (md E (i + k) + T i * (a * md C k)) / T (i + k)
theorem mc_zero (E C a : Int) (i : Nat) : mc E C a i 0 = 0 := by
  unfold mc
  rw [md_zero, Int.mul_zero, Int.mul_zero, Int.add_zero, Nat.add_zero]
  have := md_bd E i
  exact Int.ediv_eq_zero_of_lt this.1 this.2
theorem mc_bd (E C a : Int) (i k : Nat) (h0 : 0 ≤ a) (h1 : a ≤ 65535) : 0 ≤ mc E C a i k ∧ mc E C a i k ≤ 65535 := by
  have b1 := md_bd E (i + k)
  have b2 := md_bd C k
  have t := T_pos i
  have t' := T_pos (i + k)
  have m1 : 0 ≤ T i * (a * md C k) := Int.mul_nonneg (Int.le_of_lt t) (Int.mul_nonneg h0 b2.1)
  have m2 : T i * (a * md C k) ≤ T i * (a * T k) := Int.mul_le_mul_of_nonneg_left (Int.mul_le_mul_of_nonneg_left (by omega) h0) (Int.le_of_lt t)
  have e : T i * (a * T k) = a * T (i + k) := by rw [T_add, Int.mul_left_comm]
  have m3 : (a + 1) * T (i + k) = a * T (i + k) + T (i + k) := by rw [Int.add_mul, Int.one_mul]
  have h : mc E C a i k < a + 1 := Int.ediv_lt_of_lt_mul t' (by omega)
  exact ⟨Int.ediv_nonneg (by omega) (by omega), by omega⟩
theorem mc_succ (E C a : Int) (i k : Nat) : mc E C a i (k + 1) = (mc E C a i k + dg E (i + k) + a * dg C k) / 65536 := by
  unfold mc
  have e : md E (i + (k + 1)) + T i * (a * md C (k + 1)) = (md E (i + k) + T i * (a * md C k)) + T (i + k) * (dg E (i + k) + a * dg C k) := by
    rw [show i + (k + 1) = i + k + 1 from rfl, md_succ, md_succ, Int.mul_add a, Int.mul_add (T i), Int.mul_add (T (i + k)), T_add, Int.mul_left_comm a (T k), ← Int.mul_assoc (T i) (T k)]
    omega
  rw [e, show i + (k + 1) = i + k + 1 from rfl, step]
  congr 1
  omega
theorem mc_dg (E C a : Int) (i k : Nat) : (mc E C a i k + dg E (i + k) + a * dg C k) % 65536 = dg (E + T i * (a * C)) (i + k) := by
  have hE := split E (i + k)
  have hC := split C k
  have e : E + T i * (a * C) = (md E (i + k) + T i * (a * md C k)) + T (i + k) * (E / T (i + k) + a * (C / T k)) := by
    conv => lhs; rw [← hE, ← hC]
    rw [Int.mul_add a, Int.mul_add (T i), Int.mul_add (T (i + k)), T_add, Int.mul_left_comm a (T k), ← Int.mul_assoc (T i) (T k)]
    omega
  have h : (E + T i * (a * C)) / T (i + k) = mc E C a i k + (E / T (i + k) + a * (C / T k)) := by unfold mc; rw [← quo, ← e]
  obtain ⟨z, hz⟩ := mul_mod a (C / T k)
  unfold dg
  rw [h]
  generalize a * (C / T k) = p at *
  generalize a * (C / T k % 65536) = q at *
  omega
theorem dg_low (E X : Int) (i j : Nat) (h : j < i) : dg (E + T i * X) j = dg E j := by
  obtain ⟨m, rfl⟩ : ∃ m, i = j + 1 + m := ⟨i - (j + 1), by omega⟩
  have e : E + T (j + 1 + m) * X = E + T j * (65536 * (T m * X)) := by rw [T_add, T_succ, Int.mul_assoc, Int.mul_assoc]
  unfold dg
  rw [e, quo]
  omega
theorem md_all (A : Int) (n : Nat) (h0 : 0 ≤ A) (h : A < T n) : md A n = A := Int.emod_eq_of_lt h0 h
theorem prod_succ (A C : Int) (i : Nat) : md A (i + 1) * C = md A i * C + T i * (dg A i * C) := by
  rw [md_succ, Int.add_mul, Int.mul_assoc]
end Rf
end Go.Proofs.Ytpfhkmppbochnaa
/- Contract of the document's plain product: the digits of the product, and its sign. -/
namespace Go.Proofs.Ytpfhkmppbochnaa
open Go.RowKit

/-- What stands in memory while two numbers are multiplied. -/
structure TS (w : World) (s t : Bool) (A C : Int) (h : Nat → Int) (W : World) : Prop where
  r1 : Row W w.heap.size 48 (nm s (dgs A))
  r2 : Row W (w.heap.size + 1) 48 (nm t (dgs C))
  r3 : Row W (w.heap.size + 1 + 1) 48 (nm false fun _ => 0)
  r4 : Row W (w.heap.size + 1 + 1 + 1) 46 (ar h)
  q : Quiet w W
theorem TS.drewN {w : World} {s t : Bool} {A C : Int} {h : Nat → Int} {W : World} (k : TS w s t A C h W) (n : Nat) : TS w s t A C h (W.drewN n) := ⟨k.r1, k.r2, k.r3, k.r4, k.q.drewN n⟩
theorem TS.put {w : World} {s t : Bool} {A C : Int} {h : Nat → Int} {W : World} (k : TS w s t A C h W) (i : Nat) (v : Int) : TS w s t A C (upd h i v) (W.setCell ⟨w.heap.size + 1 + 1 + 1, i, none⟩ (.int .u64 v)) :=
  ⟨k.r1.far (by omega) _, k.r2.far (by omega) _, k.r3.far (by omega) _, k.r4.put i v, k.q.setCell (by show w.heap.size ≤ w.heap.size + 1 + 1 + 1; omega) _⟩
theorem TS.ext {w : World} {s t : Bool} {A C : Int} {h g : Nat → Int} {W : World} (k : TS w s t A C h W) (e : ar h = ar g) : TS w s t A C g W := ⟨k.r1, k.r2, k.r3, by rw [← e]; exact k.r4, k.q⟩

theorem mix_low (E X : Int) (i : Nat) : ar (mix (i + 0) (dgs (E + Rf.T i * X)) (dgs E)) = ar (dgs E) := ar_ext fun j _ => by
  unfold mix
  by_cases h : j < i + 0
  · rw [if_pos h]; exact Rf.dg_low E X i j (by omega)
  · rw [if_neg h]

set_option maxHeartbeats 4000000 in
theorem times_any (s t : Bool) (A C : Int) (hA : 0 ≤ A) (hA1 : A < Rf.T 12) (w : World) :
    Calls Try.prog 24 #[.agg (nm s (dgs A)), .agg (nm t (dgs C))] w fun e w' => e = .returned (.agg (nm (!s == t) (dgs (A * C)))) ∧ Quiet w w' := by
  have HA := Lib.hid (Rf.md_all A 12 hA hA1)
  clear hA hA1
  go_enter Try.func24, Try.ntmps24
  go_wp2_with fail
  go_loopw [6] (fun i wr => ∃ k : Nat, k ≤ 12 ∧ i = .int .i64 k ∧ TS w s t A C (dgs (Rf.md A k * C)) wr) (fun i _ => 12 - (intOf i).toNat)
  case atStart =>
    refine ⟨0, by omega, rfl, ⟨(((Row.new w _ _).alloc _).alloc _).alloc _, ((Row.at_ (w.alloc _) _ _ (by simp)).alloc _).alloc _, (Row.at_ ((w.alloc _).alloc _) _ _ (by simp)).alloc _, ?_, ((((Quiet.refl w).alloc _ _).alloc _ _).alloc _ _).alloc _ _⟩⟩
    rw [Rf.md_zero, Int.zero_mul]
    exact Row.at_ (((w.alloc _).alloc _).alloc _) _ _ (by simp)
  case round =>
    obtain ⟨i, hi, rfl, S⟩ := hrel
    by_cases hlt : i < 12
    · obtain ⟨wo, hwo⟩ : ∃ wo : World, wo = wr := ⟨_, rfl⟩
      rw [← hwo] at S ⊢
      clear hwo
      have ba := dgs_bd A i
      have HS := Lib.hid S
      clear S
      go_wp2_with fail
      go_loopw [7, 8] (fun c j wr => ∃ k : Nat, i + k ≤ 12 ∧ j = .int .i64 k ∧ c = .int .u64 (Rf.mc (Rf.md A i * C) C (dgs A i) i k) ∧ TS w s t A C (mix (i + k) (dgs (Rf.md A i * C + Rf.T i * (dgs A i * C))) (dgs (Rf.md A i * C))) wr) (fun _ j _ => 12 - (intOf j).toNat)
      case atStart => exact ⟨0, by omega, rfl, by rw [Rf.mc_zero], HS.out.ext (mix_low _ _ _).symm⟩
      case round =>
        obtain ⟨k, hk, rfl, rfl, S⟩ := hrel
        by_cases hl2 : i + k < 12
        · have c1 := S.r4.cell (i + k) hl2
          rw [mix_at] at c1
          have c2 := S.r1.digit i hlt
          have c3 := S.r2.digit k (by omega)
          have f1 := S.r4.free (i + k)
          have bc := Rf.mc_bd (Rf.md A i * C) C (dgs A i) i k ba.1 ba.2
          have be := dgs_bd (Rf.md A i * C) (i + k)
          have bb := dgs_bd C k
          obtain ⟨ba1, ba2⟩ := ba
          obtain ⟨bc1, bc2⟩ := bc
          obtain ⟨be1, be2⟩ := be
          obtain ⟨bb1, bb2⟩ := bb
          have bm1 : 0 ≤ dgs A i * dgs C k := Int.mul_nonneg ba1 bb1
          have bm2 : dgs A i * dgs C k ≤ 4294836225 := Int.mul_le_mul ba2 bb2 bb1 (by decide)
          have E1 := Lib.hid (Rf.mc_succ (Rf.md A i * C) C (dgs A i) i k)
          have E2 := Lib.hid (Rf.mc_dg (Rf.md A i * C) C (dgs A i) i k)
          have KS := Lib.hid S
          clear S
          go_wp2
          go_quiet (fail)
          go_wp2
          go_roundw
          case rel =>
            refine ⟨k + 1, by omega, by go_num, by rw [E1.out]; rfl, ?_⟩
            exact ((KS.out.drewN nq).put (i + k) _).ext (mix_put (i + k) _ _ E2.out)
          case measure => simp [intOf]; omega
        · have e12 : i + k = 12 := by omega
          rw [e12] at S
          clear e12
          have S' := S.ext (mix_all _ _)
          have KS : Hid (TS w s t A C (dgs (Rf.md A (i + 1) * C)) wr) := Lib.hid (by rw [Rf.prod_succ]; exact S')
          clear S S'
          go_wp2
          go_roundw
          case rel => exact ⟨i + 1, by omega, by go_num, KS.out⟩
          case measure => simp [intOf]; omega
    · obtain rfl : i = 12 := by omega
      rw [HA.out] at S
      have c1 := S.r1.sign
      have c2 := S.r2.sign
      have KS := Lib.hid S
      clear S
      go_wp2_with (first
        | ((with_reducible refine wl_load_ar (w.heap.size + 1 + 1 + 1) 0 (dgs (A * C)) ?_ ?_ ?_); rfl; exact KS.out.r4.range0)
        | ((with_reducible refine wl_build (!s == t) (dgs (A * C)) ?_ ?_ ?_); rfl; rfl)
        | ((with_reducible refine wl_store_nm (w.heap.size + 1 + 1) (!s == t) false (dgs (A * C)) (fun _ => 0) ?_ ?_ ?_ ?_); rfl; rfl; exact KS.out.r3))
      exact bodyPost_ret (v := .agg (nm (!s == t) (dgs (A * C)))) (results_cell_row rfl _ _ (w.heap.size + 1 + 1) 48 _ (0, 0) _ rfl (KS.out.r3.whole _) Try.underlying48 rfl (by kernel_rfl)) rfl
        ⟨rfl, KS.out.q.setRow KS.out.r3 (by omega) _⟩
end Go.Proofs.Ytpfhkmppbochnaa
/- Plain arithmetic on numbers, no program: a division bit by bit. -/
namespace Go.Proofs.Ytpfhkmppbochnaa
namespace Rf

/-- 2 to the k, as a number; what stands above the k lowest bits. -/
def P2 (k : Nat) : Int := 2 ^ k
theorem P2_pos (k : Nat) : 0 < P2 k := Int.pow_pos (by decide)
theorem P2_succ (k : Nat) : P2 (k + 1) = P2 k * 2 := Int.pow_succ _ _
theorem P2_add (i k : Nat) : P2 (i + k) = P2 i * P2 k := Int.pow_add _ _ _
theorem T_P2 (k : Nat) : T k = P2 (16 * k) := by
  induction k with
  | zero => rfl
  | succ k ih => rw [T_succ, ih, show 16 * (k + 1) = 16 * k + 16 from rfl, P2_add]; rfl
theorem up_step (A : Int) (j : Nat) : A / P2 j = 2 * (A / P2 (j + 1)) + A / P2 j % 2 := by
  rw [P2_succ, ← Int.ediv_ediv_of_nonneg (Int.le_of_lt (P2_pos j))]; omega
theorem bit_of (A : Int) (j : Nat) : dg A (j / 16) / P2 (j % 16) % 2 = A / P2 j % 2 := by
  have hj : j = 16 * (j / 16) + j % 16 := by omega
  have h16 : j % 16 < 16 := Nat.mod_lt _ (by decide)
  have e : A / P2 j = A / T (j / 16) / P2 (j % 16) := by
    conv => lhs; rw [hj]
    rw [P2_add, ← T_P2, Int.ediv_ediv_of_nonneg (Int.le_of_lt (T_pos _))]
  rw [e]
  unfold dg
  generalize A / T (j / 16) = D
  generalize j % 16 = r at h16
  have hp : (65536 : Int) = P2 r * (2 * P2 (15 - r)) := by
    rw [show 2 * P2 (15 - r) = P2 (15 - r + 1) by rw [P2_succ]; omega, ← P2_add, show r + (15 - r + 1) = 16 by omega]; rfl
  have hd := Int.mul_ediv_add_emod D 65536
  have h1 : D / P2 r = D % 65536 / P2 r + 2 * (P2 (15 - r) * (D / 65536)) := by
    conv => lhs; rw [← hd]
    rw [Int.add_comm]
    conv => lhs; rw [hp]
    rw [Int.mul_assoc, Int.add_mul_ediv_left _ _ (by have := P2_pos r; omega), ← hp, Int.mul_assoc]
  rw [h1]; omega
theorem top_zero (A : Int) (h0 : 0 ≤ A) (h : A < T 12) : A / P2 192 = 0 := Int.ediv_eq_zero_of_lt h0 (by rw [show (192 : Nat) = 16 * 12 from rfl, ← T_P2]; exact h)
theorem low_all (A : Int) : A / P2 0 = A := Int.ediv_one A

/-- A step of the division: the rest, doubled, with a bit more, is less than the divisor; or it is not. -/
theorem div_less (H C b : Int) (hC : 0 < C) (hb : 0 ≤ b) (h : 2 * (H % C) + b < C) : (2 * H + b) / C = 2 * (H / C) ∧ (2 * H + b) % C = 2 * (H % C) + b := by
  have e := Int.mul_ediv_add_emod H C
  have m0 := Int.emod_nonneg H (show C ≠ 0 by omega)
  exact (Int.ediv_emod_unique (a := 2 * H + b) (b := C) (r := 2 * (H % C) + b) (q := 2 * (H / C)) hC).2 ⟨by rw [Int.mul_left_comm]; omega, by omega, h⟩
theorem div_more (H C b : Int) (hC : 0 < C) (hb : b ≤ 1) (h : C ≤ 2 * (H % C) + b) : (2 * H + b) / C = 2 * (H / C) + 1 ∧ (2 * H + b) % C = 2 * (H % C) + b - C := by
  have e := Int.mul_ediv_add_emod H C
  have m1 := Int.emod_lt_of_pos H hC
  exact (Int.ediv_emod_unique (a := 2 * H + b) (b := C) (r := 2 * (H % C) + b - C) (q := 2 * (H / C) + 1) hC).2 ⟨by rw [Int.mul_add, Int.mul_left_comm, Int.mul_one]; omega, by omega, by omega⟩
theorem dg_odd (q : Int) (k : Nat) : dg (2 * q + 1) k = if k = 0 then dg (2 * q) 0 + 1 else dg (2 * q) k := by
  cases k with
  | zero => rw [if_pos rfl]; unfold dg; rw [at_zero, at_zero]; omega
  | succ k =>
    rw [if_neg (by omega)]
    unfold dg
    have h : ∀ x : Int, x / T (k + 1) = x / 2 / (32768 * T k) := fun x => by
      rw [T_succ, Int.ediv_ediv_of_nonneg (by decide : (0 : Int) ≤ 2)]
      congr 1
      rw [← Int.mul_assoc, Int.mul_comm]
      omega
    rw [h, h, show (2 * q + 1) / 2 = q by omega, show 2 * q / 2 = q by omega]
end Rf
end Go.Proofs.Ytpfhkmppbochnaa
/- Contract of the document's plain quotient: bit by bit, rounded down. -/
namespace Go.Proofs.Ytpfhkmppbochnaa
open Go.RowKit

/-- What stands in memory while a number is divided: both numbers, the places of the answers, the quotient and the rest so far. -/
structure OS (w : World) (s t : Bool) (A C q r : Int) (W : World) : Prop where
  r1 : Row W w.heap.size 48 (nm s (dgs A))
  r2 : Row W (w.heap.size + 1) 48 (nm t (dgs C))
  r3 : Row W (w.heap.size + 1 + 1) 48 (nm false fun _ => 0)
  r4 : Row W (w.heap.size + 1 + 1 + 1) 48 (nm false fun _ => 0)
  r5 : Row W (w.heap.size + 1 + 1 + 1 + 1) 46 (ar (dgs q))
  r6 : Row W (w.heap.size + 1 + 1 + 1 + 1 + 1) 46 (ar (dgs r))
  q : Quiet w W
section
variable {w : World} {s t : Bool} {A C q r : Int} {W W' : World}
theorem OS.quiet (h : OS w s t A C q r W) (k : Quiet W W') : OS w s t A C q r W' :=
  ⟨h.r1.below k.2 h.r1.lt, h.r2.below k.2 h.r2.lt, h.r3.below k.2 h.r3.lt, h.r4.below k.2 h.r4.lt, h.r5.below k.2 h.r5.lt, h.r6.below k.2 h.r6.lt, h.q.trans k⟩
theorem OS.drew (h : OS w s t A C q r W) : OS w s t A C q r W.drew := ⟨h.r1, h.r2, h.r3, h.r4, h.r5, h.r6, h.q.drew⟩
theorem OS.setR (h : OS w s t A C q r W) (r' : Int) : OS w s t A C q r' (W.setRow (w.heap.size + 1 + 1 + 1 + 1 + 1) (ar (dgs r'))) :=
  ⟨h.r1.apart (by omega) _, h.r2.apart (by omega) _, h.r3.apart (by omega) _, h.r4.apart (by omega) _, h.r5.apart (by omega) _, h.r6.whole _, h.q.setRow h.r6 (by omega) _⟩
theorem OS.setQ (h : OS w s t A C q r W) (q' : Int) : OS w s t A C q' r (W.setRow (w.heap.size + 1 + 1 + 1 + 1) (ar (dgs q'))) :=
  ⟨h.r1.apart (by omega) _, h.r2.apart (by omega) _, h.r3.apart (by omega) _, h.r4.apart (by omega) _, h.r5.whole _, h.r6.apart (by omega) _, h.q.setRow h.r5 (by omega) _⟩
theorem ar_odd (q : Int) : ar (upd (dgs (2 * q)) 0 (dgs (2 * q) 0 + 1)) = ar (dgs (2 * q + 1)) := ar_ext fun k _ => by
  unfold upd dgs
  rw [Rf.dg_odd]
theorem OS.odd (h : OS w s t A C (2 * q) r W) : OS w s t A C (2 * q + 1) r (W.setCell ⟨w.heap.size + 1 + 1 + 1 + 1, 0, none⟩ (.int .u64 (dgs (2 * q) 0 + 1))) :=
  ⟨h.r1.far (by omega) _, h.r2.far (by omega) _, h.r3.far (by omega) _, h.r4.far (by omega) _, by rw [← ar_odd]; exact h.r5.put 0 _, h.r6.far (by omega) _, h.q.setCell (by show w.heap.size ≤ w.heap.size + 1 + 1 + 1 + 1; omega) _⟩
/-- What every world of a round has. -/
def OX (w : World) (s : Bool) (A : Int) (W : World) : Prop := Row W w.heap.size 48 (nm s (dgs A))
end

/-- A guarded operation that is wanted. -/
theorem wpList_wanted {P : Program} {ops : Array Oper} {Q : Exit → Act → World → Prop} {a : Act} {w : World} {rest : List Oper} {o : Oper} (hw : Region.wanted o (yielded ops a.tmps) = true)
    (h : ∀ K : Act → World → Prop, (∀ a w, wpList P ops Q rest a w → K a w) → o.wp P a w K Q) : wpList P ops Q (o :: rest) a w := wpList_step fun K hK => by simp only [hw, if_true]; exact h K hK
theorem wl_load_nm_g {ops : Array Oper} {rest : List Oper} {a : Act} {w : World} {Q : Exit → Act → World → Prop} {d : Option Tmp} {ty : TypeId} {pos : String} {af : Array Edge} {gd : Nat × Bool} {x : Operand} (g : Nat) (s : Bool) (f : Nat → Int)
    (hw : Region.wanted { dst := d, op := .load 48 x, type := ty, pos := pos, after := af, guard := some gd } (yielded ops a.tmps) = true)
    (hx : a.eval x = .pointer (some ⟨g, 0, none⟩)) (r : Row w g 48 (nm s f)) (h : wpList Try.prog ops Q rest (a.put d (.agg (nm s f))) w) :
    wpList Try.prog ops Q ({ dst := d, op := .load 48 x, type := ty, pos := pos, after := af, guard := some gd } :: rest) a w :=
  wpList_wanted hw fun K hK => wp_load_row 48 x rfl g hx 48 (nm s f) (0, 0) _ r Try.underlying48 rfl (by kernel_rfl) (hK _ _ h)
theorem Row.range00 {w : World} {g : Nat} {t : TypeId} {s : Bool} {f : Nat → Int} (h : Row w g t (nm s f)) : w.rangeAt g 0 (nm s f).toList := by
  intro j v hj
  rw [Nat.zero_add, cell_of_row _ _ _ _ _ _ h]
  simpa using hj
theorem results_two {fn : Func} {p p' : Tmp} (h : fn.results = #[.cell p 48, .cell p' 48]) (tmps : Array Value) (w : World) (g g' : Nat) (s s' : Bool) (f f' : Nat → Int)
    (hp : tmps.getD p undef = .pointer (some ⟨g, 0, none⟩)) (hp' : tmps.getD p' undef = .pointer (some ⟨g', 0, none⟩)) (r : Row w g 48 (nm s f)) (r' : Row w g' 48 (nm s' f')) :
    (results fn tmps).run Try.prog w = .ok (.tuple #[.agg (nm s f), .agg (nm s' f')]) w := by
  have e : tmps[p]?.getD undef = .pointer (some ⟨g, 0, none⟩) := by simpa using hp
  have e' : tmps[p']?.getD undef = .pointer (some ⟨g', 0, none⟩) := by simpa using hp'
  have l := run_loadVar_row (P := Try.prog) w g 48 48 (nm s f) (0, 0) _ r Try.underlying48 rfl (by kernel_rfl)
  have l' := run_loadVar_row (P := Try.prog) w g' 48 48 (nm s' f') (0, 0) _ r' Try.underlying48 rfl (by kernel_rfl)
  simp [results, h, e, e', asAddr, l, l']
theorem OS.setOther {w : World} {s t : Bool} {A C q r : Int} {W : World} (h : OS w s t A C q r W) {g : Nat} {cs : Array Value} (k : Row W g 48 cs) (hg : w.heap.size + 1 + 1 + 1 + 1 + 1 < g) (cs' : Array Value) : OS w s t A C q r (W.setRow g cs') :=
  ⟨h.r1.apart (by omega) _, h.r2.apart (by omega) _, h.r3.apart (by omega) _, h.r4.apart (by omega) _, h.r5.apart (by omega) _, h.r6.apart (by omega) _, h.q.setRow k (by omega) _⟩
theorem minus_one (w : World) : Calls Try.prog 23 #[.int .i64 (-1)] w fun e w' => e = .returned (.agg (nm true (dgs 1))) ∧ Quiet w w' := of_any (-1) (by unfold I64; decide) w

set_option maxHeartbeats 4000000 in
theorem over_any (s t : Bool) (A C : Int) (hA : 0 ≤ A) (hA1 : A + 1 < Rf.T 12) (hC : 0 < C) (hC1 : 2 * C < Rf.T 12) (w : World) :
    Calls Try.prog 25 #[.agg (nm s (dgs A)), .agg (nm t (dgs C))] w fun e w' => (∃ u M R, e = .returned (.tuple #[.agg (nm u (dgs M)), .agg (nm false (dgs R))]) ∧ 0 ≤ M ∧ M ≤ A + 1 ∧ sgn u M = sgn (!s == t) A / C ∧ R = A % C) ∧ Quiet w w' := by
  have HA := Lib.hid (And.intro hA hA1)
  have HC := Lib.hid (And.intro hC hC1)
  clear hA hA1 hC hC1
  go_enter Try.func25, Try.ntmps25
  go_wp2_with fail
  go_loopw [8] (fun i wr => ∃ k : Nat, k ≤ 192 ∧ i = .int .i64 ((k : Int) - 1) ∧ OS w s t A C (A / Rf.P2 k / C) (A / Rf.P2 k % C) wr) (fun i _ => (intOf i + 1).toNat)
  case atStart =>
    refine ⟨192, by omega, rfl, ?_⟩
    rw [Rf.top_zero A HA.out.1 (by have := HA.out.2; omega), Int.zero_ediv, Int.zero_emod]
    exact ⟨(((((Row.new w _ _).alloc _).alloc _).alloc _).alloc _).alloc _, ((((Row.at_ (w.alloc _) _ _ (by simp)).alloc _).alloc _).alloc _).alloc _, (((Row.at_ ((w.alloc _).alloc _) _ _ (by simp)).alloc _).alloc _).alloc _,
      ((Row.at_ (((w.alloc _).alloc _).alloc _) _ _ (by simp)).alloc _).alloc _, (Row.at_ ((((w.alloc _).alloc _).alloc _).alloc _) _ _ (by simp)).alloc _, Row.at_ (((((w.alloc _).alloc _).alloc _).alloc _).alloc _) _ _ (by simp),
      ((((((Quiet.refl w).alloc _ _).alloc _ _).alloc _ _).alloc _ _).alloc _ _).alloc _ _⟩
  case round =>
    obtain ⟨k, hk, rfl, S⟩ := hrel
    match k, hk, S with
    | 0, _, S =>
      rw [show ((0 : Nat) : Int) - 1 = -1 from rfl]
      rw [Rf.low_all] at S
      have hC' := HC.out.1
      have m0 := Int.emod_nonneg A (show C ≠ 0 by omega)
      have m1 := Int.emod_lt_of_pos A hC'
      have hR := Lib.hid (And.intro m0 (show A % C < Rf.T 12 by have := HC.out.2; omega))
      have hQ0 := Lib.hid (And.intro (Int.ediv_nonneg HA.out.1 (Int.le_of_lt hC')) (Int.ediv_le_self C HA.out.1))
      have HN0 := Lib.hid (fun h => neg_div0 A C hC' h)
      have HN1 := Lib.hid (fun h => neg_div1 A C hC' h)
      clear m0 m1 hC'
      obtain ⟨Q, hQ⟩ : ∃ Q, Q = A / C := ⟨_, rfl⟩
      obtain ⟨R, hRe⟩ : ∃ R, R = A % C := ⟨_, rfl⟩
      rw [← hQ, ← hRe] at S
      rw [← hRe] at hR HN0 HN1
      rw [← hQ] at hQ0 HN0 HN1
      have ZR := Lib.hid (fun W => zero_any false R hR.out.1 hR.out.2 W)
      have HQ := Lib.hid hQ
      have HRE := Lib.hid hRe
      have KS := Lib.hid S
      clear S hQ hRe
      have bw := KS.out.r6.lt
      have c1 : ∀ zs cs, ((wr.alloc (.cells zs 48)).setRow wr.heap.size cs).cell? ⟨w.heap.size, 0, none⟩ = some (.bool s) := fun zs cs =>
        (show Row ((wr.alloc (.cells zs 48)).setRow wr.heap.size cs) w.heap.size 48 (nm s (dgs A)) from (KS.out.r1.alloc _).apart (by omega) _).sign
      have c2 : ∀ zs cs, ((wr.alloc (.cells zs 48)).setRow wr.heap.size cs).cell? ⟨w.heap.size + 1, 0, none⟩ = some (.bool t) := fun zs cs =>
        (show Row ((wr.alloc (.cells zs 48)).setRow wr.heap.size cs) (w.heap.size + 1) 48 (nm t (dgs C)) from (KS.out.r2.alloc _).apart (by omega) _).sign
      have c10 : ∀ zs zs' u, ((((wr.alloc (.cells zs 48)).setRow wr.heap.size (nm false (dgs R))).alloc (.cells zs' 48)).setRow (wr.heap.size + 1) (nm u (dgs Q))).cell? ⟨wr.heap.size + 1, 0, none⟩ = some (.bool u) := fun zs zs' u =>
        ((Row.at_ (k := wr.heap.size + 1) _ 48 zs' (by simp)).whole (nm u (dgs Q))).sign
      cases hsg : (!s == t)
      · have HF : Hid (0 ≤ Q ∧ Q ≤ A + 1 ∧ sgn false Q = sgn (!s == t) A / C) := Lib.hid ⟨hQ0.out.1, by have := hQ0.out.2; omega, by rw [hsg, HQ.out]; rfl⟩
        go_wp2_with (first
          | ((with_reducible refine wl_load_ar (w.heap.size + 1 + 1 + 1 + 1 + 1) 0 (dgs R) ?_ ?_ ?_); rfl; exact (KS.out.quiet ((Quiet.refl wr).alloc _ _)).r6.range0)
          | ((with_reducible refine wl_load_ar (w.heap.size + 1 + 1 + 1 + 1 + 1) 0 (dgs R) ?_ ?_ ?_); rfl; exact KS.out.r6.range0)
          | ((with_reducible refine wl_build false (dgs R) ?_ ?_ ?_); rfl; rfl)
          | ((with_reducible refine wl_store_nm wr.heap.size false false (dgs R) (fun _ => 0) ?_ ?_ ?_ ?_); rfl; rfl; exact Row.new wr 48 (nm false fun _ => 0); have Q1 := Lib.hid (((Quiet.refl wr).alloc (nm false fun _ => 0) 48).setRow (Row.new wr 48 (nm false fun _ => 0)) (Nat.le_refl _) (nm false (dgs R))); have K1 := Lib.hid (KS.out.quiet Q1.out); have r9 := Lib.hid ((Row.new wr 48 (nm false fun _ => 0)).whole (nm false (dgs R))))
          | ((with_reducible refine wl_load_ar (w.heap.size + 1 + 1 + 1 + 1) 0 (dgs Q) ?_ ?_ ?_); rfl; exact K1.out.r5.range0)
          | ((with_reducible refine wl_build false (dgs Q) ?_ ?_ ?_); rfl; rfl)
          | ((with_reducible refine wl_store_nm (wr.heap.size + 1) false false (dgs Q) (fun _ => 0) ?_ ?_ ?_ ?_); rfl; rfl; exact Row.at_ _ _ _ (by simp); have q2 := Lib.hid (((Quiet.refl ((wr.alloc (.cells (nm false fun _ => 0) 48)).setRow wr.heap.size (nm false (dgs R)))).alloc (nm false fun _ => 0) 48).setRow (Row.at_ (k := wr.heap.size + 1) _ 48 (nm false fun _ => 0) (by simp)) (by simp) (nm false (dgs Q))); have K2 := Lib.hid (K1.out.quiet q2.out); have r9' := Lib.hid (r9.out.below q2.out.2 r9.out.lt); have r10 := Lib.hid ((Row.at_ (k := wr.heap.size + 1) ((wr.alloc (.cells (nm false fun _ => 0) 48)).setRow wr.heap.size (nm false (dgs R))) 48 (nm false fun _ => 0) (by simp)).whole (nm false (dgs Q))))
          | ((with_reducible refine wl_load_nm_g wr.heap.size false (dgs R) ?_ ?_ ?_ ?_); rfl; rfl; exact r9'.out)
          | (go_at_call 22; refine (ZR.out _).mono ?_; rintro e w6 ⟨rfl, q6⟩))
        refine wp_region_held_drew (S := fun W => Row W (wr.heap.size + 1) 48 (nm false (dgs Q)) ∧ Row W wr.heap.size 48 (nm false (dgs R))) (by kernel_rfl) ⟨r10.out, r9'.out⟩ (fun hX => ?_)
        refine wpAnyH_take (i := 0) (v := .agg (nm false (dgs Q))) rfl (by kernel_rfl) (by kernel_rfl) (by kernel_rfl) (fun _ _ _ h => h) (yields_nm (by rfl) (.tmp 10) rfl (wr.heap.size + 1) rfl false (dgs Q) (fun W hW => hW.1.range00)) (by assumption) ?_
        simp only [List.getElem_toArray, List.getElem_cons_zero, Act.put, List.setIfInBounds_toArray, List.set_cons_zero, List.set_cons_succ]
        refine wpAnyH_take (i := 1) (v := .agg (nm false (dgs R))) rfl (by kernel_rfl) (by kernel_rfl) (by kernel_rfl) (fun _ _ _ h => h) (yields_nm (by rfl) (.tmp 9) rfl wr.heap.size rfl false (dgs R) (fun W hW => hW.2.range00)) (by assumption) ?_
        simp only [List.getElem_toArray, List.getElem_cons_zero, List.getElem_cons_succ, Act.put, List.setIfInBounds_toArray, List.set_cons_zero, List.set_cons_succ]
        have SD := K2.out.drew
        refine wpAnyH_ready (rs := [2]) (by kernel_rfl) (by simp) (AllReadyH.cons rfl (fun K hK => ?_) AllReadyH.nil)
        rw [if_pos (by rfl)]
        refine wp_store_row 48 (.tmp 4) (.tmp 60) rfl (w.heap.size + 1 + 1) (nm false (dgs Q)) rfl rfl 48 _ SD.r3 (by kernel_rfl) rfl (nm_one _ _) ?_
        have X1 := hX.1.apart (g' := w.heap.size + 1 + 1) (by omega) (nm false (dgs Q))
        have X2 := hX.2.apart (g' := w.heap.size + 1 + 1) (by omega) (nm false (dgs Q))
        refine hK.out _ _ ⟨X1, X2⟩ (fun _ => ?_)
        clear hK
        try simp only [List.getElem_toArray, List.getElem_cons_zero, List.getElem_cons_succ, Act.put]
        have Y3 := SD.r3.whole (nm false (dgs Q))
        have Y4 := SD.r4.apart (g' := w.heap.size + 1 + 1) (by omega) (nm false (dgs Q))
        have YQ := SD.q.setRow SD.r3 (by omega) (nm false (dgs Q))
        refine wpAnyH_ready (rs := [3]) (by kernel_rfl) (by simp) (AllReadyH.cons rfl (fun K hK => ?_) AllReadyH.nil)
        rw [if_pos (by rfl)]
        refine wp_store_row 48 (.tmp 5) (.tmp 61) rfl (w.heap.size + 1 + 1 + 1) (nm false (dgs R)) rfl rfl 48 _ Y4 (by kernel_rfl) rfl (nm_one _ _) ?_
        refine hK.out _ _ ⟨X1.apart (by omega) _, X2.apart (by omega) _⟩ (fun _ => ?_)
        clear hK
        refine wpAnyH_done (by kernel_rfl) ?_ _
        simp only [List.getElem_toArray, List.getElem_cons_zero, List.getElem_cons_succ, Act.put]
        have Z3 := Lib.hid (Y3.apart (g' := w.heap.size + 1 + 1 + 1) (by omega) (nm false (dgs R)))
        have Z4 := Lib.hid (Y4.whole (nm false (dgs R)))
        have ZQ := Lib.hid (YQ.setRow Y4 (by omega) (nm false (dgs R)))
        clear X1 X2 Y3 Y4 YQ SD hX
        go_wp2
        exact bodyPost_ret (v := .tuple #[.agg (nm false (dgs Q)), .agg (nm false (dgs R))]) (results_two rfl _ _ (w.heap.size + 1 + 1) (w.heap.size + 1 + 1 + 1) _ _ _ _ rfl rfl Z3.out Z4.out) rfl
          ⟨⟨false, Q, R, rfl, HF.out.1, HF.out.2.1, HF.out.2.2, HRE.out⟩, ZQ.out⟩
      · cases hz : decide (R = 0)
        · have HF0 : Hid (-A / C = -(Q + 1)) := Lib.hid (HN1.out (of_decide_eq_false hz))
          have P := Lib.hid (fun W => plus_num true true Q 1 (Q + 1) hQ0.out.1 (by decide) (Int.le_refl _) (by have := hQ0.out.2; have := HA.out.2; omega) W)
          go_wp2_with (first
            | ((with_reducible refine wl_load_ar (w.heap.size + 1 + 1 + 1 + 1 + 1) 0 (dgs R) ?_ ?_ ?_); rfl; exact (KS.out.quiet ((Quiet.refl wr).alloc _ _)).r6.range0)
            | ((with_reducible refine wl_load_ar (w.heap.size + 1 + 1 + 1 + 1 + 1) 0 (dgs R) ?_ ?_ ?_); rfl; exact KS.out.r6.range0)
            | ((with_reducible refine wl_build false (dgs R) ?_ ?_ ?_); rfl; rfl)
            | ((with_reducible refine wl_store_nm wr.heap.size false false (dgs R) (fun _ => 0) ?_ ?_ ?_ ?_); rfl; rfl; exact Row.new wr 48 (nm false fun _ => 0); have Q1 := Lib.hid (((Quiet.refl wr).alloc (nm false fun _ => 0) 48).setRow (Row.new wr 48 (nm false fun _ => 0)) (Nat.le_refl _) (nm false (dgs R))); have K1 := Lib.hid (KS.out.quiet Q1.out); have r9 := Lib.hid ((Row.new wr 48 (nm false fun _ => 0)).whole (nm false (dgs R))))
            | ((with_reducible refine wl_load_ar (w.heap.size + 1 + 1 + 1 + 1) 0 (dgs Q) ?_ ?_ ?_); rfl; exact K1.out.r5.range0)
            | ((with_reducible refine wl_build true (dgs Q) ?_ ?_ ?_); rfl; rfl)
            | ((with_reducible refine wl_store_nm (wr.heap.size + 1) true false (dgs Q) (fun _ => 0) ?_ ?_ ?_ ?_); rfl; rfl; exact Row.at_ _ _ _ (by simp); have q2 := Lib.hid (((Quiet.refl ((wr.alloc (.cells (nm false fun _ => 0) 48)).setRow wr.heap.size (nm false (dgs R)))).alloc (nm false fun _ => 0) 48).setRow (Row.at_ (k := wr.heap.size + 1) _ 48 (nm false fun _ => 0) (by simp)) (by simp) (nm true (dgs Q))); have K2 := Lib.hid (K1.out.quiet q2.out); have r9' := Lib.hid (r9.out.below q2.out.2 r9.out.lt); have r10 := Lib.hid ((Row.at_ (k := wr.heap.size + 1) ((wr.alloc (.cells (nm false fun _ => 0) 48)).setRow wr.heap.size (nm false (dgs R))) 48 (nm false fun _ => 0) (by simp)).whole (nm true (dgs Q))))
            | ((with_reducible refine wl_load_nm_g wr.heap.size false (dgs R) ?_ ?_ ?_ ?_); rfl; rfl; exact r9'.out)
            | (go_at_call 22; refine (ZR.out _).mono ?_; rintro e w6 ⟨rfl, q6⟩))
          have R10 := Lib.hid (r10.out.below q6.2 r10.out.lt)
          have R9 := Lib.hid (r9'.out.below q6.2 r9'.out.lt)
          have KF := Lib.hid (K2.out.quiet q6)
          clear c1 c2 c10 K1 K2 r9 r9' r10 Q1 q2 q6
          go_wp2_with fail
          refine wp_region_held_drew (S := fun _ => True) (by kernel_rfl) trivial (fun _ => ?_)
          refine wpAnyH_ready (rs := [0, 1]) (by kernel_rfl) (by simp) (AllReadyH.cons rfl (fun K hK => ?_) (AllReadyH.cons rfl (fun K hK => ?_) AllReadyH.nil))
          · rw [if_pos (by rfl)]
            refine wp_load_row 48 (.tmp 10) rfl (wr.heap.size + 1) rfl 48 (nm true (dgs Q)) (0, 0) _ R10.out Try.underlying48 rfl (by kernel_rfl) ?_
            refine hK.out _ _ trivial (fun _ => ?_)
            clear hK
            try simp only [List.getElem_toArray, List.getElem_cons_zero, Act.put, List.setIfInBounds_toArray, List.set_cons_zero, List.set_cons_succ]
            refine wpAnyH_ready (rs := [1]) (by kernel_rfl) (by simp) (AllReadyH.cons rfl (fun K hK => ?_) AllReadyH.nil)
            go_simp
            refine (minus_one _).mono ?_; rintro e w7 ⟨rfl, q7⟩
            have RB := Lib.hid ((show Row w6.drew (wr.heap.size + 1) 48 _ from R10.out).below q7.2 (show wr.heap.size + 1 < w6.drew.heap.size from R10.out.lt))
            have RB9 := Lib.hid ((show Row w6.drew wr.heap.size 48 _ from R9.out).below q7.2 (show wr.heap.size < w6.drew.heap.size from R9.out.lt))
            have KB := Lib.hid (KF.out.drew.quiet q7)
            refine hK.out _ _ trivial (fun _ => ?_)
            clear hK q7
            try simp only [List.getElem_toArray, List.getElem_cons_zero, List.getElem_cons_succ, Act.put, List.setIfInBounds_toArray, List.set_cons_zero, List.set_cons_succ]
            refine wpAnyH_ready (rs := [2]) (by kernel_rfl) (by simp) (AllReadyH.cons rfl (fun K hK => ?_) AllReadyH.nil)
            go_simp
            refine (P.out _).mono ?_; rintro e w8 ⟨⟨u, M, rfl, n0, n1, hx⟩, q8⟩
            have HF : Hid (0 ≤ M ∧ M ≤ A + 1 ∧ sgn u M = sgn (!s == t) A / C) := Lib.hid ⟨n0, by have := hQ0.out.2; omega, by rw [hx, hsg]; exact (show -Q + -1 = -(Q + 1) by omega).trans HF0.out.symm⟩
            have rc := RB.out.below q8.2 RB.out.lt
            have rd := RB9.out.below q8.2 RB9.out.lt
            have kd := KB.out.quiet q8
            refine hK.out _ _ trivial (fun _ => ?_)
            clear hK n0 n1 hx q8
            try simp only [List.getElem_toArray, List.getElem_cons_zero, List.getElem_cons_succ, Act.put, List.setIfInBounds_toArray, List.set_cons_zero, List.set_cons_succ]
            refine wpAnyH_ready (rs := [3]) (by kernel_rfl) (by simp) (AllReadyH.cons rfl (fun K hK => ?_) AllReadyH.nil)
            rw [if_pos (by rfl)]
            refine wp_store_row 48 (.tmp 10) (.tmp 59) rfl (wr.heap.size + 1) (nm u (dgs M)) rfl rfl 48 _ rc (by kernel_rfl) rfl (nm_one _ _) ?_
            have RG := Lib.hid (rc.whole (nm u (dgs M)))
            have RH := Lib.hid (rd.apart (g' := wr.heap.size + 1) (by omega) (nm u (dgs M)))
            have KG := Lib.hid (kd.setOther rc (by omega) (nm u (dgs M)))
            refine hK.out _ _ trivial (fun _ => ?_)
            clear hK rc rd kd
            refine wpAnyH_done (by kernel_rfl) ?_ _
            simp only [List.getElem_toArray, List.getElem_cons_zero, List.getElem_cons_succ, Act.put]
            go_wp2_with fail
            refine wp_region_held_drew (S := fun W => Row W (wr.heap.size + 1) 48 (nm u (dgs M)) ∧ Row W wr.heap.size 48 (nm false (dgs R))) (by kernel_rfl) ⟨RG.out, RH.out⟩ (fun hX => ?_)
            refine wpAnyH_take (i := 0) (v := .agg (nm u (dgs M))) rfl (by kernel_rfl) (by kernel_rfl) (by kernel_rfl) (fun _ _ _ h => h) (yields_nm (by rfl) (.tmp 10) rfl (wr.heap.size + 1) rfl u (dgs M) (fun W hW => hW.1.range00)) (by assumption) ?_
            simp only [List.getElem_toArray, List.getElem_cons_zero, Act.put, List.setIfInBounds_toArray, List.set_cons_zero, List.set_cons_succ]
            refine wpAnyH_take (i := 1) (v := .agg (nm false (dgs R))) rfl (by kernel_rfl) (by kernel_rfl) (by kernel_rfl) (fun _ _ _ h => h) (yields_nm (by rfl) (.tmp 9) rfl wr.heap.size rfl false (dgs R) (fun W hW => hW.2.range00)) (by assumption) ?_
            simp only [List.getElem_toArray, List.getElem_cons_zero, List.getElem_cons_succ, Act.put, List.setIfInBounds_toArray, List.set_cons_zero, List.set_cons_succ]
            have SD := KG.out.drew
            refine wpAnyH_ready (rs := [2]) (by kernel_rfl) (by simp) (AllReadyH.cons rfl (fun K hK => ?_) AllReadyH.nil)
            rw [if_pos (by rfl)]
            refine wp_store_row 48 (.tmp 4) (.tmp 60) rfl (w.heap.size + 1 + 1) (nm u (dgs M)) rfl rfl 48 _ SD.r3 (by kernel_rfl) rfl (nm_one _ _) ?_
            have X1 := hX.1.apart (g' := w.heap.size + 1 + 1) (by omega) (nm u (dgs M))
            have X2 := hX.2.apart (g' := w.heap.size + 1 + 1) (by omega) (nm u (dgs M))
            refine hK.out _ _ ⟨X1, X2⟩ (fun _ => ?_)
            clear hK
            try simp only [List.getElem_toArray, List.getElem_cons_zero, List.getElem_cons_succ, Act.put]
            have Y3 := SD.r3.whole (nm u (dgs M))
            have Y4 := SD.r4.apart (g' := w.heap.size + 1 + 1) (by omega) (nm u (dgs M))
            have YQ := SD.q.setRow SD.r3 (by omega) (nm u (dgs M))
            refine wpAnyH_ready (rs := [3]) (by kernel_rfl) (by simp) (AllReadyH.cons rfl (fun K hK => ?_) AllReadyH.nil)
            rw [if_pos (by rfl)]
            refine wp_store_row 48 (.tmp 5) (.tmp 61) rfl (w.heap.size + 1 + 1 + 1) (nm false (dgs R)) rfl rfl 48 _ Y4 (by kernel_rfl) rfl (nm_one _ _) ?_
            refine hK.out _ _ ⟨X1.apart (by omega) _, X2.apart (by omega) _⟩ (fun _ => ?_)
            clear hK
            refine wpAnyH_done (by kernel_rfl) ?_ _
            simp only [List.getElem_toArray, List.getElem_cons_zero, List.getElem_cons_succ, Act.put]
            have Z3 := Lib.hid (Y3.apart (g' := w.heap.size + 1 + 1 + 1) (by omega) (nm false (dgs R)))
            have Z4 := Lib.hid (Y4.whole (nm false (dgs R)))
            have ZQ := Lib.hid (YQ.setRow Y4 (by omega) (nm false (dgs R)))
            clear X1 X2 Y3 Y4 YQ SD hX
            go_wp2
            exact bodyPost_ret (v := .tuple #[.agg (nm u (dgs M)), .agg (nm false (dgs R))]) (results_two rfl _ _ (w.heap.size + 1 + 1) (w.heap.size + 1 + 1 + 1) _ _ _ _ rfl rfl Z3.out Z4.out) rfl
              ⟨⟨u, M, R, rfl, HF.out.1, HF.out.2.1, HF.out.2.2, HRE.out⟩, ZQ.out⟩
          · go_simp
            refine (minus_one _).mono ?_; rintro e w7 ⟨rfl, q7⟩
            have RB := Lib.hid ((show Row w6.drew (wr.heap.size + 1) 48 _ from R10.out).below q7.2 (show wr.heap.size + 1 < w6.drew.heap.size from R10.out.lt))
            have RB9 := Lib.hid ((show Row w6.drew wr.heap.size 48 _ from R9.out).below q7.2 (show wr.heap.size < w6.drew.heap.size from R9.out.lt))
            have KB := Lib.hid (KF.out.drew.quiet q7)
            refine hK.out _ _ trivial (fun _ => ?_)
            clear hK q7
            try simp only [List.getElem_toArray, List.getElem_cons_zero, List.getElem_cons_succ, Act.put, List.setIfInBounds_toArray, List.set_cons_zero, List.set_cons_succ]
            refine wpAnyH_ready (rs := [0]) (by kernel_rfl) (by simp) (AllReadyH.cons rfl (fun K hK => ?_) AllReadyH.nil)
            rw [if_pos (by rfl)]
            refine wp_load_row 48 (.tmp 10) rfl (wr.heap.size + 1) rfl 48 (nm true (dgs Q)) (0, 0) _ RB.out Try.underlying48 rfl (by kernel_rfl) ?_
            refine hK.out _ _ trivial (fun _ => ?_)
            clear hK
            try simp only [List.getElem_toArray, List.getElem_cons_zero, Act.put, List.setIfInBounds_toArray, List.set_cons_zero, List.set_cons_succ]
            refine wpAnyH_ready (rs := [2]) (by kernel_rfl) (by simp) (AllReadyH.cons rfl (fun K hK => ?_) AllReadyH.nil)
            go_simp
            refine (P.out _).mono ?_; rintro e w8 ⟨⟨u, M, rfl, n0, n1, hx⟩, q8⟩
            have HF : Hid (0 ≤ M ∧ M ≤ A + 1 ∧ sgn u M = sgn (!s == t) A / C) := Lib.hid ⟨n0, by have := hQ0.out.2; omega, by rw [hx, hsg]; exact (show -Q + -1 = -(Q + 1) by omega).trans HF0.out.symm⟩
            have rc := RB.out.below q8.2 RB.out.lt
            have rd := RB9.out.below q8.2 RB9.out.lt
            have kd := KB.out.quiet q8
            refine hK.out _ _ trivial (fun _ => ?_)
            clear hK n0 n1 hx q8
            try simp only [List.getElem_toArray, List.getElem_cons_zero, List.getElem_cons_succ, Act.put, List.setIfInBounds_toArray, List.set_cons_zero, List.set_cons_succ]
            refine wpAnyH_ready (rs := [3]) (by kernel_rfl) (by simp) (AllReadyH.cons rfl (fun K hK => ?_) AllReadyH.nil)
            rw [if_pos (by rfl)]
            refine wp_store_row 48 (.tmp 10) (.tmp 59) rfl (wr.heap.size + 1) (nm u (dgs M)) rfl rfl 48 _ rc (by kernel_rfl) rfl (nm_one _ _) ?_
            have RG := Lib.hid (rc.whole (nm u (dgs M)))
            have RH := Lib.hid (rd.apart (g' := wr.heap.size + 1) (by omega) (nm u (dgs M)))
            have KG := Lib.hid (kd.setOther rc (by omega) (nm u (dgs M)))
            refine hK.out _ _ trivial (fun _ => ?_)
            clear hK rc rd kd
            refine wpAnyH_done (by kernel_rfl) ?_ _
            simp only [List.getElem_toArray, List.getElem_cons_zero, List.getElem_cons_succ, Act.put]
            go_wp2_with fail
            refine wp_region_held_drew (S := fun W => Row W (wr.heap.size + 1) 48 (nm u (dgs M)) ∧ Row W wr.heap.size 48 (nm false (dgs R))) (by kernel_rfl) ⟨RG.out, RH.out⟩ (fun hX => ?_)
            refine wpAnyH_take (i := 0) (v := .agg (nm u (dgs M))) rfl (by kernel_rfl) (by kernel_rfl) (by kernel_rfl) (fun _ _ _ h => h) (yields_nm (by rfl) (.tmp 10) rfl (wr.heap.size + 1) rfl u (dgs M) (fun W hW => hW.1.range00)) (by assumption) ?_
            simp only [List.getElem_toArray, List.getElem_cons_zero, Act.put, List.setIfInBounds_toArray, List.set_cons_zero, List.set_cons_succ]
            refine wpAnyH_take (i := 1) (v := .agg (nm false (dgs R))) rfl (by kernel_rfl) (by kernel_rfl) (by kernel_rfl) (fun _ _ _ h => h) (yields_nm (by rfl) (.tmp 9) rfl wr.heap.size rfl false (dgs R) (fun W hW => hW.2.range00)) (by assumption) ?_
            simp only [List.getElem_toArray, List.getElem_cons_zero, List.getElem_cons_succ, Act.put, List.setIfInBounds_toArray, List.set_cons_zero, List.set_cons_succ]
            have SD := KG.out.drew
            refine wpAnyH_ready (rs := [2]) (by kernel_rfl) (by simp) (AllReadyH.cons rfl (fun K hK => ?_) AllReadyH.nil)
            rw [if_pos (by rfl)]
            refine wp_store_row 48 (.tmp 4) (.tmp 60) rfl (w.heap.size + 1 + 1) (nm u (dgs M)) rfl rfl 48 _ SD.r3 (by kernel_rfl) rfl (nm_one _ _) ?_
            have X1 := hX.1.apart (g' := w.heap.size + 1 + 1) (by omega) (nm u (dgs M))
            have X2 := hX.2.apart (g' := w.heap.size + 1 + 1) (by omega) (nm u (dgs M))
            refine hK.out _ _ ⟨X1, X2⟩ (fun _ => ?_)
            clear hK
            try simp only [List.getElem_toArray, List.getElem_cons_zero, List.getElem_cons_succ, Act.put]
            have Y3 := SD.r3.whole (nm u (dgs M))
            have Y4 := SD.r4.apart (g' := w.heap.size + 1 + 1) (by omega) (nm u (dgs M))
            have YQ := SD.q.setRow SD.r3 (by omega) (nm u (dgs M))
            refine wpAnyH_ready (rs := [3]) (by kernel_rfl) (by simp) (AllReadyH.cons rfl (fun K hK => ?_) AllReadyH.nil)
            rw [if_pos (by rfl)]
            refine wp_store_row 48 (.tmp 5) (.tmp 61) rfl (w.heap.size + 1 + 1 + 1) (nm false (dgs R)) rfl rfl 48 _ Y4 (by kernel_rfl) rfl (nm_one _ _) ?_
            refine hK.out _ _ ⟨X1.apart (by omega) _, X2.apart (by omega) _⟩ (fun _ => ?_)
            clear hK
            refine wpAnyH_done (by kernel_rfl) ?_ _
            simp only [List.getElem_toArray, List.getElem_cons_zero, List.getElem_cons_succ, Act.put]
            have Z3 := Lib.hid (Y3.apart (g' := w.heap.size + 1 + 1 + 1) (by omega) (nm false (dgs R)))
            have Z4 := Lib.hid (Y4.whole (nm false (dgs R)))
            have ZQ := Lib.hid (YQ.setRow Y4 (by omega) (nm false (dgs R)))
            clear X1 X2 Y3 Y4 YQ SD hX
            go_wp2
            exact bodyPost_ret (v := .tuple #[.agg (nm u (dgs M)), .agg (nm false (dgs R))]) (results_two rfl _ _ (w.heap.size + 1 + 1) (w.heap.size + 1 + 1 + 1) _ _ _ _ rfl rfl Z3.out Z4.out) rfl
              ⟨⟨u, M, R, rfl, HF.out.1, HF.out.2.1, HF.out.2.2, HRE.out⟩, ZQ.out⟩
        · have hz' : R = 0 := of_decide_eq_true hz
          have HF : Hid (0 ≤ Q ∧ Q ≤ A + 1 ∧ sgn true Q = sgn (!s == t) A / C) := Lib.hid ⟨hQ0.out.1, by have := hQ0.out.2; omega, by rw [hsg]; exact (HN0.out hz').symm⟩
          clear hz'
          go_wp2_with (first
            | ((with_reducible refine wl_load_ar (w.heap.size + 1 + 1 + 1 + 1 + 1) 0 (dgs R) ?_ ?_ ?_); rfl; exact (KS.out.quiet ((Quiet.refl wr).alloc _ _)).r6.range0)
            | ((with_reducible refine wl_load_ar (w.heap.size + 1 + 1 + 1 + 1 + 1) 0 (dgs R) ?_ ?_ ?_); rfl; exact KS.out.r6.range0)
            | ((with_reducible refine wl_build false (dgs R) ?_ ?_ ?_); rfl; rfl)
            | ((with_reducible refine wl_store_nm wr.heap.size false false (dgs R) (fun _ => 0) ?_ ?_ ?_ ?_); rfl; rfl; exact Row.new wr 48 (nm false fun _ => 0); have Q1 := Lib.hid (((Quiet.refl wr).alloc (nm false fun _ => 0) 48).setRow (Row.new wr 48 (nm false fun _ => 0)) (Nat.le_refl _) (nm false (dgs R))); have K1 := Lib.hid (KS.out.quiet Q1.out); have r9 := Lib.hid ((Row.new wr 48 (nm false fun _ => 0)).whole (nm false (dgs R))))
            | ((with_reducible refine wl_load_ar (w.heap.size + 1 + 1 + 1 + 1) 0 (dgs Q) ?_ ?_ ?_); rfl; exact K1.out.r5.range0)
            | ((with_reducible refine wl_build true (dgs Q) ?_ ?_ ?_); rfl; rfl)
            | ((with_reducible refine wl_store_nm (wr.heap.size + 1) true false (dgs Q) (fun _ => 0) ?_ ?_ ?_ ?_); rfl; rfl; exact Row.at_ _ _ _ (by simp); have q2 := Lib.hid (((Quiet.refl ((wr.alloc (.cells (nm false fun _ => 0) 48)).setRow wr.heap.size (nm false (dgs R)))).alloc (nm false fun _ => 0) 48).setRow (Row.at_ (k := wr.heap.size + 1) _ 48 (nm false fun _ => 0) (by simp)) (by simp) (nm true (dgs Q))); have K2 := Lib.hid (K1.out.quiet q2.out); have r9' := Lib.hid (r9.out.below q2.out.2 r9.out.lt); have r10 := Lib.hid ((Row.at_ (k := wr.heap.size + 1) ((wr.alloc (.cells (nm false fun _ => 0) 48)).setRow wr.heap.size (nm false (dgs R))) 48 (nm false fun _ => 0) (by simp)).whole (nm true (dgs Q))))
            | ((with_reducible refine wl_load_nm_g wr.heap.size false (dgs R) ?_ ?_ ?_ ?_); rfl; rfl; exact r9'.out)
            | (go_at_call 22; refine (ZR.out _).mono ?_; rintro e w6 ⟨rfl, q6⟩))
          have R10 := Lib.hid (r10.out.below q6.2 r10.out.lt)
          have R9 := Lib.hid (r9'.out.below q6.2 r9'.out.lt)
          have KF := Lib.hid (K2.out.quiet q6)
          clear c1 c2 c10 K1 K2 r9 r9' r10 Q1 q2 q6
          go_wp2_with fail
          refine wp_region_held_drew (S := fun W => Row W (wr.heap.size + 1) 48 (nm true (dgs Q)) ∧ Row W wr.heap.size 48 (nm false (dgs R))) (by kernel_rfl) ⟨R10.out, R9.out⟩ (fun hX => ?_)
          refine wpAnyH_take (i := 0) (v := .agg (nm true (dgs Q))) rfl (by kernel_rfl) (by kernel_rfl) (by kernel_rfl) (fun _ _ _ h => h) (yields_nm (by rfl) (.tmp 10) rfl (wr.heap.size + 1) rfl true (dgs Q) (fun W hW => hW.1.range00)) (by assumption) ?_
          simp only [List.getElem_toArray, List.getElem_cons_zero, Act.put, List.setIfInBounds_toArray, List.set_cons_zero, List.set_cons_succ]
          refine wpAnyH_take (i := 1) (v := .agg (nm false (dgs R))) rfl (by kernel_rfl) (by kernel_rfl) (by kernel_rfl) (fun _ _ _ h => h) (yields_nm (by rfl) (.tmp 9) rfl wr.heap.size rfl false (dgs R) (fun W hW => hW.2.range00)) (by assumption) ?_
          simp only [List.getElem_toArray, List.getElem_cons_zero, List.getElem_cons_succ, Act.put, List.setIfInBounds_toArray, List.set_cons_zero, List.set_cons_succ]
          have SD := KF.out.drew
          refine wpAnyH_ready (rs := [2]) (by kernel_rfl) (by simp) (AllReadyH.cons rfl (fun K hK => ?_) AllReadyH.nil)
          rw [if_pos (by rfl)]
          refine wp_store_row 48 (.tmp 4) (.tmp 60) rfl (w.heap.size + 1 + 1) (nm true (dgs Q)) rfl rfl 48 _ SD.r3 (by kernel_rfl) rfl (nm_one _ _) ?_
          have X1 := hX.1.apart (g' := w.heap.size + 1 + 1) (by omega) (nm true (dgs Q))
          have X2 := hX.2.apart (g' := w.heap.size + 1 + 1) (by omega) (nm true (dgs Q))
          refine hK.out _ _ ⟨X1, X2⟩ (fun _ => ?_)
          clear hK
          try simp only [List.getElem_toArray, List.getElem_cons_zero, List.getElem_cons_succ, Act.put]
          have Y3 := SD.r3.whole (nm true (dgs Q))
          have Y4 := SD.r4.apart (g' := w.heap.size + 1 + 1) (by omega) (nm true (dgs Q))
          have YQ := SD.q.setRow SD.r3 (by omega) (nm true (dgs Q))
          refine wpAnyH_ready (rs := [3]) (by kernel_rfl) (by simp) (AllReadyH.cons rfl (fun K hK => ?_) AllReadyH.nil)
          rw [if_pos (by rfl)]
          refine wp_store_row 48 (.tmp 5) (.tmp 61) rfl (w.heap.size + 1 + 1 + 1) (nm false (dgs R)) rfl rfl 48 _ Y4 (by kernel_rfl) rfl (nm_one _ _) ?_
          refine hK.out _ _ ⟨X1.apart (by omega) _, X2.apart (by omega) _⟩ (fun _ => ?_)
          clear hK
          refine wpAnyH_done (by kernel_rfl) ?_ _
          simp only [List.getElem_toArray, List.getElem_cons_zero, List.getElem_cons_succ, Act.put]
          have Z3 := Lib.hid (Y3.apart (g' := w.heap.size + 1 + 1 + 1) (by omega) (nm false (dgs R)))
          have Z4 := Lib.hid (Y4.whole (nm false (dgs R)))
          have ZQ := Lib.hid (YQ.setRow Y4 (by omega) (nm false (dgs R)))
          clear X1 X2 Y3 Y4 YQ SD hX
          go_wp2
          exact bodyPost_ret (v := .tuple #[.agg (nm true (dgs Q)), .agg (nm false (dgs R))]) (results_two rfl _ _ (w.heap.size + 1 + 1) (w.heap.size + 1 + 1 + 1) _ _ _ _ rfl rfl Z3.out Z4.out) rfl
            ⟨⟨true, Q, R, rfl, HF.out.1, HF.out.2.1, HF.out.2.2, HRE.out⟩, ZQ.out⟩
    | j + 1, hk, S =>
      rw [show ((j + 1 : Nat) : Int) - 1 = (j : Int) from by omega]
      have hj : j < 192 := by omega
      have hj16 : j / 16 < 12 := by omega
      have hj1 : (0 : Int) ≤ (j : Int) / 16 := by omega
      have hj2 : (j : Int) / 16 < 12 := by omega
      have KS := Lib.hid S
      clear S
      obtain ⟨b, hbe⟩ : ∃ b, b = A / Rf.P2 j % 2 := ⟨_, rfl⟩
      have hb : 0 ≤ b ∧ b ≤ 1 := by omega
      have HB : Hid (dgs A (j / 16) / 2 ^ (j % 16) % 2 = b) := Lib.hid (by rw [hbe]; exact Rf.bit_of A j)
      have bd := dgs_bd A (j / 16)
      obtain ⟨bd1, bd2⟩ := bd
      have HU : Hid (A / Rf.P2 j = 2 * (A / Rf.P2 (j + 1)) + b) := Lib.hid (by rw [hbe]; exact Rf.up_step A j)
      clear hbe
      obtain ⟨H, hH⟩ : ∃ H, H = A / Rf.P2 (j + 1) := ⟨_, rfl⟩
      rw [← hH] at KS HU
      clear hH
      go_wp2_with fail
      refine wp_region_held_drew (S := OX w s A) (by kernel_rfl) KS.out.r1 (fun hX => ?_)
      refine wpAnyH_take (i := 1) (v := .int .i64 j) rfl (by kernel_rfl) (by kernel_rfl) (by kernel_rfl) (fun _ _ _ h => h) (.inl ⟨by rfl, ?_⟩) (by assumption) ?_
      · intro W hW; go_simp
      simp only [List.getElem_toArray, List.getElem_cons_zero, List.getElem_cons_succ, Act.put, List.setIfInBounds_toArray, List.set_cons_zero, List.set_cons_succ]
      refine wpAnyH_take (i := 2) (v := .int .i64 ((j : Int) / 16)) rfl (by kernel_rfl) (by kernel_rfl) (by kernel_rfl) (fun _ _ _ h => h) (.inl ⟨by rfl, ?_⟩) (by assumption) ?_
      · intro W hW; go_simp; simp only [IntKind.wrap_i64]; omega
      simp only [List.getElem_toArray, List.getElem_cons_zero, List.getElem_cons_succ, Act.put, List.setIfInBounds_toArray, List.set_cons_zero, List.set_cons_succ]
      refine wpAnyH_take (i := 3) (v := .pointer (some ⟨w.heap.size, 1, none⟩)) rfl (by kernel_rfl) (by kernel_rfl) (by kernel_rfl) (fun _ _ _ h => h) (.inl ⟨by rfl, ?_⟩) (by assumption) ?_
      · intro W hW; go_simp
      simp only [List.getElem_toArray, List.getElem_cons_zero, List.getElem_cons_succ, Act.put, List.setIfInBounds_toArray, List.set_cons_zero, List.set_cons_succ]
      refine wpAnyH_take (i := 4) (v := .pointer (some ⟨w.heap.size, 1 + j / 16, none⟩)) rfl (by kernel_rfl) (by kernel_rfl) (by kernel_rfl) (fun _ _ _ h => h) (.inl ⟨by rfl, ?_⟩) (by assumption) ?_
      · intro W hW; go_simp
      simp only [List.getElem_toArray, List.getElem_cons_zero, List.getElem_cons_succ, Act.put, List.setIfInBounds_toArray, List.set_cons_zero, List.set_cons_succ]
      refine wpAnyH_take (i := 5) (v := .int .u64 (dgs A (j / 16))) rfl (by kernel_rfl) (by kernel_rfl) (by kernel_rfl) (fun _ _ _ h => h) (.inl ⟨by rfl, ?_⟩) (by assumption) ?_
      · intro W hW; have := (show Row W w.heap.size 48 _ from hW).digit (j / 16) hj16; go_simp
      simp only [List.getElem_toArray, List.getElem_cons_zero, List.getElem_cons_succ, Act.put, List.setIfInBounds_toArray, List.set_cons_zero, List.set_cons_succ]
      refine wpAnyH_take (i := 6) (v := .int .i64 j) rfl (by kernel_rfl) (by kernel_rfl) (by kernel_rfl) (fun _ _ _ h => h) (.inl ⟨by rfl, ?_⟩) (by assumption) ?_
      · intro W hW; go_simp
      simp only [List.getElem_toArray, List.getElem_cons_zero, List.getElem_cons_succ, Act.put, List.setIfInBounds_toArray, List.set_cons_zero, List.set_cons_succ]
      refine wpAnyH_take (i := 7) (v := .int .i64 ((j : Int) % 16)) rfl (by kernel_rfl) (by kernel_rfl) (by kernel_rfl) (fun _ _ _ h => h) (.inl ⟨by rfl, ?_⟩) (by assumption) ?_
      · intro W hW; go_simp; exact Int.tmod_eq_emod_of_nonneg (by omega)
      simp only [List.getElem_toArray, List.getElem_cons_zero, List.getElem_cons_succ, Act.put, List.setIfInBounds_toArray, List.set_cons_zero, List.set_cons_succ]
      refine wpAnyH_take (i := 8) (v := .int .u64 (dgs A (j / 16) / 2 ^ (j % 16))) rfl (by kernel_rfl) (by kernel_rfl) (by kernel_rfl) (fun _ _ _ h => h) (.inl ⟨by rfl, ?_⟩) (by assumption) ?_
      · intro W hW; go_simp; rw [show ((j : Int) % 16).toNat = j % 16 by omega]
      simp only [List.getElem_toArray, List.getElem_cons_zero, List.getElem_cons_succ, Act.put, List.setIfInBounds_toArray, List.set_cons_zero, List.set_cons_succ]
      refine wpAnyH_take (i := 9) (v := .int .u64 b) rfl (by kernel_rfl) (by kernel_rfl) (by kernel_rfl) (fun _ _ _ h => h) (.inl ⟨by rfl, ?_⟩) (by assumption) ?_
      · intro W hW; go_simp; exact (Int.tmod_eq_emod_of_nonneg (Int.ediv_nonneg bd1 (Int.le_of_lt (Rf.P2_pos (j % 16))))).trans HB.out
      simp only [List.getElem_toArray, List.getElem_cons_zero, List.getElem_cons_succ, Act.put, List.setIfInBounds_toArray, List.set_cons_zero, List.set_cons_succ]
      refine wpAnyH_ready (rs := [0]) (by kernel_rfl) (by simp) (AllReadyH.cons rfl (fun K hK => ?_) AllReadyH.nil)
      rw [if_pos (by rfl)]
      refine wp_load_row 46 (.tmp 7) rfl (w.heap.size + 1 + 1 + 1 + 1 + 1) rfl 46 (ar (dgs (H % C))) (0, 0) _ KS.out.r6 Try.underlying46 rfl (by kernel_rfl) ?_
      refine hK.out _ _ hX (fun _ => ?_)
      clear hK
      try simp only [List.getElem_toArray, List.getElem_cons_zero, Act.put, List.setIfInBounds_toArray, List.set_cons_zero, List.set_cons_succ]
      refine wpAnyH_ready (rs := [10]) (by kernel_rfl) (by simp) (AllReadyH.cons rfl (fun K hK => ?_) AllReadyH.nil)
      go_simp
      refine (shifted_any (H % C) b hb _).mono ?_; rintro e w1 ⟨rfl, q1⟩
      have S1 := KS.out.drew.quiet q1
      refine hK.out _ _ S1.r1 (fun _ => ?_)
      clear hK
      try simp only [List.getElem_toArray, List.getElem_cons_zero, List.getElem_cons_succ, Act.put, List.setIfInBounds_toArray, List.set_cons_zero, List.set_cons_succ]
      refine wpAnyH_ready (rs := [11]) (by kernel_rfl) (by simp) (AllReadyH.cons rfl (fun K hK => ?_) AllReadyH.nil)
      rw [if_pos (by rfl)]
      refine wp_store_row 46 (.tmp 7) (.tmp 25) rfl (w.heap.size + 1 + 1 + 1 + 1 + 1) (ar (dgs (2 * (H % C) + b))) rfl rfl 46 _ S1.r6 (by kernel_rfl) rfl (ar_one _) ?_
      have S2 := S1.setR (2 * (H % C) + b)
      refine hK.out _ _ S2.r1 (fun _ => ?_)
      clear hK
      refine wpAnyH_done (by kernel_rfl) ?_ _
      simp only [List.getElem_toArray, List.getElem_cons_zero, List.getElem_cons_succ, Act.put]
      have K2 := Lib.hid S2
      clear S1 S2 KS hX
      obtain ⟨W2, hW2⟩ : ∃ W2, W2 = w1.setRow (w.heap.size + 1 + 1 + 1 + 1 + 1) (ar (dgs (2 * (H % C) + b))) := ⟨_, rfl⟩
      rw [← hW2] at K2 ⊢
      clear hW2 q1
      have SH := Lib.hid (fun W => shifted_any (H / C) 0 (by omega) W)
      rw [Int.add_zero] at SH
      have hm := And.intro (Int.emod_nonneg H (show C ≠ 0 by have := HC.out.1; omega)) (Int.emod_lt_of_pos H HC.out.1)
      have LS := Lib.hid (fun W => less_any (2 * (H % C) + b) C (by omega) (by have := HC.out.1; omega) (by have := HC.out.2; omega) (by have := HC.out; omega) W)
      clear hm
      cases hl : ltB (2 * (H % C) + b) C
      all_goals
        go_wp2_with (first
          | ((with_reducible refine wl_load_ar (w.heap.size + 1 + 1 + 1 + 1) 0 (dgs (H / C)) ?_ ?_ ?_); rfl; exact K2.out.r5.range0)
          | (go_at_call 34; refine (SH.out _).mono ?_; rintro e w3 ⟨rfl, q3⟩)
          | ((with_reducible refine wl_store_ar (w.heap.size + 1 + 1 + 1 + 1) (dgs (2 * (H / C))) (dgs (H / C)) ?_ ?_ ?_ ?_); rfl; rfl; exact (K2.out.quiet q3).r5; have K3 := Lib.hid ((K2.out.quiet q3).setQ (2 * (H / C))))
          | ((with_reducible refine wl_load_ar (w.heap.size + 1 + 1 + 1 + 1 + 1) 0 (dgs (2 * (H % C) + b)) ?_ ?_ ?_); rfl; first | exact K4.out.r6.range0 | exact K3.out.r6.range0)
          | ((with_reducible refine wl_load_ar (w.heap.size + 1) 1 (dgs C) ?_ ?_ ?_); rfl; first | exact K4.out.r2.range | exact K3.out.r2.range)
          | (go_at_call 26; refine (LS.out _).mono ?_; rintro e w4 ⟨rfl, q4⟩; have K4 := Lib.hid (K3.out.quiet q4))
          | (go_at_call 35; refine (minus_any (2 * (H % C) + b) C _).mono ?_; rintro e w5 ⟨rfl, q5⟩)
          | ((with_reducible refine wl_store_ar (w.heap.size + 1 + 1 + 1 + 1 + 1) (dgs (2 * (H % C) + b - C)) (dgs (2 * (H % C) + b)) ?_ ?_ ?_ ?_); rfl; rfl; exact (K4.out.quiet q5).r6; have K5 := Lib.hid ((K4.out.quiet q5).setR (2 * (H % C) + b - C)); have c9 := K5.out.r5.cell 0 (by omega); have f9 := K5.out.r5.free 0; have b9 := dgs_bd (2 * (H / C)) 0))
      · have h := Rf.div_more H C b HC.out.1 hb.2 (by have := of_decide_eq_false hl; omega)
        go_roundw
        case rel => exact ⟨j, by omega, by go_num, by rw [HU.out, h.1, h.2]; exact K5.out.odd⟩
        case measure => simp [intOf]
      · have h := Rf.div_less H C b HC.out.1 hb.1 (of_decide_eq_true hl)
        go_roundw
        case rel => exact ⟨j, by omega, by go_num, by rw [HU.out, h.1, h.2]; exact K4.out⟩
        case measure => simp [intOf]
end Go.Proofs.Ytpfhkmppbochnaa
/- Contracts of the document's plain answers for products and quotients, and the walk of the statement FixnumProducts: it returns true for every three int64 numbers. -/
namespace Go.Proofs.Ytpfhkmppbochnaa
open Go.RowKit

theorem prod12 {N : Int} (h : N ≤ 85070591730234615865843651857942052864) : N + 1 < Rf.T 12 := by
  have : (85070591730234615865843651857942052866 : Int) < Rf.T 12 := by decide
  omega
theorem mag12 {N : Int} (h : N ≤ 9223372036854775808) : N < Rf.T 12 ∧ 2 * N < Rf.T 12 := by
  have := T12
  omega























































































































end Go.Proofs.Ytpfhkmppbochnaa
/- Plain facts for the document's own split: the first greatest rest is the next place in order; and what stands in memory while the parts are gathered and raised. -/
namespace Go.Proofs.Ytpfhkmppbochnaa
open Go.RowKit Go.Sort

namespace Sp
/-- The rests that are left when j places had one more, and the parts then. -/
def rj (T S : Int) (ws : List Int) (g : Nat → Int) (j t : Nat) : Int := if hit g j t = 0 then rs T S ws t else 0
def pj (T S : Int) (ws : List Int) (g : Nat → Int) (j t : Nat) : Int := sh T S ws t + hit g j t
/-- The first of the greatest below i. -/
def Fg (r : Nat → Int) (i a : Nat) : Prop := a < i ∧ ∀ t, t < i → (t < a → r t < r a) ∧ (a < t → r t ≤ r a)
theorem Fg.start (r : Nat → Int) : Fg r 1 0 := ⟨Nat.one_pos, fun t ht => ⟨fun h => by omega, fun h => by omega⟩⟩
theorem Fg.more {r : Nat → Int} {i a : Nat} (h : Fg r i a) (k : r a < r i) : Fg r (i + 1) i := ⟨Nat.lt_succ_self i, fun t ht => ⟨fun h1 => by
  have h2 := h.2 t h1
  rcases Nat.lt_trichotomy t a with c | c | c
  · have := h2.1 c; omega
  · subst c; exact k
  · have := h2.2 c; omega, fun h1 => by omega⟩⟩
theorem Fg.less {r : Nat → Int} {i a : Nat} (h : Fg r i a) (k : ¬ r a < r i) : Fg r (i + 1) a := ⟨Nat.lt_succ_of_lt h.1, fun t ht => by
  rcases Nat.lt_succ_iff_lt_or_eq.1 ht with c | c
  · exact h.2 t c
  · subst c
    have := h.1
    exact ⟨fun h1 => by omega, fun _ => by omega⟩⟩
theorem Fg.one {r : Nat → Int} {n a p : Nat} (h : Fg r n a) (hp : p < n) (k : ∀ t, t < n → t ≠ p → r t < r p ∨ (r t = r p ∧ p < t)) : a = p := by
  refine Classical.byContradiction fun c => ?_
  have h1 := k a h.1 c
  have h2 := h.2 p hp
  rcases Nat.lt_or_gt_of_ne c with l | l
  · have := h2.2 l; omega
  · have := h2.1 l; omega
end Sp
section
variable {T : Int} {ws : List Int} {g : Nat → Int}
/-- The next place. -/
theorem Al2.next (h : Al2 T ws g) {j : Nat} (hl : (j : Int) < T - Sp.su (Sp.sh T (sm ws) ws) ws.length) :
    ∃ p, p < ws.length ∧ g j = p ∧ j < ws.length ∧ Sp.hit g j p = 0 ∧ Sp.sh T (sm ws) ws p < T ∧ (∀ t, t < ws.length → t ≠ p → Sp.rj T (sm ws) ws g j t < Sp.rj T (sm ws) ws g j p ∨ (Sp.rj T (sm ws) ws g j t = Sp.rj T (sm ws) ws g j p ∧ p < t)) := by
  have hf := h.1.few
  have hj : j < ws.length := by omega
  have hb := (h.2.2 (g j)).1 ⟨j, Nat.zero_le _, hj, rfl⟩
  obtain ⟨p, hp⟩ := Int.eq_ofNat_of_zero_le (show 0 ≤ g j by omega)
  have hpn : p < ws.length := by omega
  have h0 : Sp.hit g j p = 0 := by rw [h.hit (by omega) hj hp, if_neg (Nat.lt_irrefl j)]
  have hr := h.rest hj hp hl
  refine ⟨p, hpn, hp, hj, h0, ?_, fun t ht hne => ?_⟩
  · have := Sp.su_ge (fun t => (h.1.sh t).1) hpn
    omega
  · obtain ⟨q, q1, q2⟩ := h.place ht
    have e := h.hit (k := j) (by omega) q1 q2
    unfold Sp.rj
    rw [if_pos h0]
    by_cases c : q < j
    · rw [if_pos c] at e
      rw [if_neg (by omega)]
      exact .inl hr
    · rw [if_neg c] at e
      rw [if_pos e]
      have hqj : q ≠ j := fun e1 => hne (by rw [e1, hp] at q2; omega)
      have := h.2.1 j q (Nat.zero_le _) (by omega) q1
      unfold St.lt Sp.ky at this
      rw [hp, q2, Int.toNat_natCast, Int.toNat_natCast] at this
      omega
theorem rj_zero (t : Nat) : Sp.rj T (sm ws) ws g 0 t = Sp.rs T (sm ws) ws t := if_pos rfl
theorem pj_zero (t : Nat) : Sp.pj T (sm ws) ws g 0 t = Sp.sh T (sm ws) ws t := Int.add_zero _
theorem rj_succ {j p : Nat} (hp : g j = p) (h0 : Sp.hit g j p = 0) (t : Nat) : Sp.rj T (sm ws) ws g (j + 1) t = if t = p then 0 else Sp.rj T (sm ws) ws g j t := by
  unfold Sp.rj
  simp only [Sp.hit, hp]
  by_cases c : t = p
  · subst c
    rw [h0, if_pos rfl, if_pos rfl]; rfl
  · rw [if_neg (show ¬ (p : Int) = t by omega), if_neg c, Int.add_zero]
theorem pj_succ {j p : Nat} (hp : g j = p) (t : Nat) : Sp.pj T (sm ws) ws g (j + 1) t = if t = p then Sp.pj T (sm ws) ws g j p + 1 else Sp.pj T (sm ws) ws g j t := by
  unfold Sp.pj
  simp only [Sp.hit, hp]
  by_cases c : t = p
  · subst c
    rw [if_pos rfl, if_pos rfl, Int.add_assoc]
  · rw [if_neg (show ¬ (p : Int) = t by omega), if_neg c, Int.add_zero]
theorem rj_bd (h : Al2 T ws g) (j t : Nat) : 0 ≤ Sp.rj T (sm ws) ws g j t ∧ Sp.rj T (sm ws) ws g j t ≤ 9223372036854775807 := by
  have h1 := h.1.rs t
  have h2 := h.1.2.2.2.1
  unfold Sp.rj
  split
  · omega
  · omega
end

/-- Numbers as cells, one behind the other. -/
def nl (f : Nat → Int) : Nat → List Value
  | 0 => []
  | k + 1 => nl f k ++ (nm false (dgs (f k))).toList
theorem nm_len (s : Bool) (f : Nat → Int) : (nm s f).toList.length = 13 := rfl
theorem nl_len (f : Nat → Int) : ∀ k, (nl f k).length = k * 13
  | 0 => rfl
  | k + 1 => by simp only [nl]; rw [List.length_append, nl_len f k, nm_len]; omega
theorem nl_get (f : Nat → Int) : ∀ {k t j : Nat}, t < k → j < 13 → (nl f k)[t * 13 + j]? = (nm false (dgs (f t))).toList[j]?
  | k + 1, t, j, ht, hj => by
    simp only [nl]
    by_cases c : t < k
    · rw [List.getElem?_append_left (by rw [nl_len]; omega)]
      exact nl_get f c hj
    · obtain rfl : t = k := by omega
      rw [List.getElem?_append_right (by rw [nl_len]; omega), nl_len, show t * 13 + j - t * 13 = j by omega]
theorem nl_same {f g : Nat → Int} : ∀ {k : Nat}, (∀ t, t < k → f t = g t) → nl f k = nl g k
  | 0, _ => rfl
  | k + 1, h => by simp only [nl]; rw [nl_same fun t ht => h t (by omega), h k (by omega)]
def il (f : Nat → Int) (k : Nat) : List Value := (List.range k).map fun t => .int .i64 (f t)
theorem il_succ (f : Nat → Int) (k : Nat) : il f k ++ [.int .i64 (f k)] = il f (k + 1) := by unfold il; rw [List.range_succ, List.map_append]; simp
theorem il_get {f : Nat → Int} {k t : Nat} (h : t < k) : (il f k)[t]? = some (.int .i64 (f t)) := by unfold il; simp [h]

theorem info_num : (Try.prog.info? 48).map (fun i => (i.zero, i.size, i.bytes)) = some (some (.agg (nm false fun _ => 0)), 13, 104) := by kernel_rfl

/-- What stands in memory while the parts are gathered: both lists so far, and the sum of the weights. -/
structure L2 (w : World) (B g7 : Nat) (u : Bool) (N : Int) (p r : Nat → Int) (k : Nat) (vp vq : Value) (W : World) : Prop where
  o1 : W.ownsRow B 2 1 vp k (il p k)
  o2 : W.ownsRow B 48 13 vq k (nl r k)
  r7 : Row W g7 48 (nm u (dgs N))
  h7 : g7 < B
  hb : w.heap.size ≤ B
  h8 : B ≤ W.heap.size
  q : Below w.heap.size w W
section
variable {w : World} {B g7 : Nat} {u : Bool} {N : Int} {p r : Nat → Int} {k : Nat} {vp vq : Value} {W W' : World}
theorem own_below {base : Nat} {e : TypeId} {size : Nat} {v : Value} {n : Nat} {xs : List Value} (h : W.ownsRow base e size v n xs) (b : Below W.heap.size W W') : W'.ownsRow base e size v n xs :=
  h.kept (row := none) ⟨b.os, b.tape, b.output, b.size, fun i hi _ => b.block i hi⟩ (by cases v.ownBlock <;> simp)
theorem L2.below (h : L2 w B g7 u N p r k vp vq W) (b : Below W.heap.size W W') : L2 w B g7 u N p r k vp vq W' :=
  ⟨own_below h.o1 b, own_below h.o2 b, h.r7.below b h.r7.lt, h.h7, h.hb, Nat.le_trans h.h8 b.size, h.q.trans (b.mono h.q.size)⟩
theorem L2.apart (h : L2 w B g7 u N p r k vp vq W) : vp.ownBlock = none ∨ vp.ownBlock ≠ vq.ownBlock := by
  rcases h.o1.2 with ⟨rfl, _⟩ | ⟨a, c1, x1, rfl, _, e1, _⟩
  · exact .inl rfl
  · right
    rcases h.o2.2 with ⟨rfl, _⟩ | ⟨b, c2, x2, rfl, _, e2, _⟩
    · simp [Value.ownBlock]
    · intro e
      simp only [Value.ownBlock, Option.some.injEq] at e
      rw [e, e2] at e1
      simp at e1
theorem L2.mem (h : L2 w B g7 u N p r k vp vq W) {row : Option Nat} (hg : W.grownBy W' row) (hr : ∀ i, row = some i → B ≤ i) : Row W' g7 48 (nm u (dgs N)) ∧ B ≤ W'.heap.size ∧ Below w.heap.size w W' := by
  have h1 := h.h7
  have h2 := h.h8
  have h3 := h.hb
  refine ⟨(hg.block g7 (by omega) fun e => ?_).trans h.r7, Nat.le_trans h2 hg.size, h.q.grown hg (by omega) fun i hi => by have := hr i hi; omega⟩
  have := hr g7 e.symm
  omega
theorem L2.part (h : L2 w B g7 u N p r k vp vq W) {vp' : Value} {x : Int} (hx : x = p k) (o : W'.ownsRow B 2 1 vp' (k + 1) (il p k ++ [.int .i64 x])) (hg : W.grownBy W' vp.ownBlock) :
    W'.ownsRow B 2 1 vp' (k + 1) (il p (k + 1)) ∧ W'.ownsRow B 48 13 vq k (nl r k) ∧ Row W' g7 48 (nm u (dgs N)) ∧ B ≤ W'.heap.size ∧ Below w.heap.size w W' := by
  have m := h.mem hg fun i hi => (h.o1.lt i hi).1
  subst hx
  rw [il_succ] at o
  refine ⟨o, h.o2.kept hg ?_, m.1, m.2.1, m.2.2⟩
  rcases h.apart with e | e
  · cases hv : vq.ownBlock
    · exact .inl rfl
    · right; rw [e]; simp
  · exact .inr e.symm
theorem L2.setRow (h : L2 w B g7 u N p r k vp vq W) {g : Nat} (hg : B ≤ g) (hp : vp.ownBlock ≠ some g) (hq : vq.ownBlock ≠ some g) (cs' : Array Value) : L2 w B g7 u N p r k vp vq (W.setRow g cs') := by
  have gr : W.grownBy (W.setRow g cs') (some g) := ⟨rfl, rfl, rfl, by rw [size_setRow]; exact Nat.le_refl _, fun i _ hi => setRow_other W g i cs' fun e => hi (by rw [e])⟩
  have m := h.mem gr fun i hi => by cases hi; exact hg
  exact ⟨h.o1.kept gr (.inr hp), h.o2.kept gr (.inr hq), m.1, h.h7, h.hb, m.2.1, m.2.2⟩
/-- The same, and two new places for numbers, if they are there already. -/
structure RA (w : World) (B g7 : Nat) (u : Bool) (N : Int) (p r : Nat → Int) (k : Nat) (vp vq : Value) (a14 a15 : Option Nat) (W : World) : Prop where
  base : L2 w B g7 u N p r k vp vq W
  r14 : ∀ g, a14 = some g → Row W g 48 (nm false fun _ => 0) ∧ B ≤ g ∧ vp.ownBlock ≠ some g ∧ vq.ownBlock ≠ some g
  r15 : ∀ g, a15 = some g → Row W g 48 (nm false fun _ => 0) ∧ B ≤ g ∧ vp.ownBlock ≠ some g ∧ vq.ownBlock ≠ some g
  ne : ∀ g g', a14 = some g → a15 = some g' → g ≠ g'
variable {a14 a15 : Option Nat}
theorem RA.quiet (h : RA w B g7 u N p r k vp vq a14 a15 W) (q : Quiet W W') : RA w B g7 u N p r k vp vq a14 a15 W' :=
  ⟨h.base.below q.2, fun g hg => ⟨(h.r14 g hg).1.below q.2 (h.r14 g hg).1.lt, (h.r14 g hg).2⟩, fun g hg => ⟨(h.r15 g hg).1.below q.2 (h.r15 g hg).1.lt, (h.r15 g hg).2⟩, h.ne⟩
theorem L2.fresh (h : L2 w B g7 u N p r k vp vq W) : vp.ownBlock ≠ some W.heap.size ∧ vq.ownBlock ≠ some W.heap.size :=
  ⟨fun e => absurd (h.o1.lt _ e).2 (Nat.lt_irrefl _), fun e => absurd (h.o2.lt _ e).2 (Nat.lt_irrefl _)⟩
theorem RA.alloc14 (h : RA w B g7 u N p r k vp vq none a15 W) : RA w B g7 u N p r k vp vq (some W.heap.size) a15 (W.alloc (.cells (nm false fun _ => 0) 48)) := by
  have f := h.base.fresh
  refine ⟨h.base.below ((Below.refl _ _).alloc (Nat.le_refl _) _), fun g hg => ?_, fun g hg => ⟨(h.r15 g hg).1.alloc _, (h.r15 g hg).2⟩, fun g g' hg hg' => ?_⟩
  · cases hg
    exact ⟨Row.new W _ _, h.base.h8, f.1, f.2⟩
  · cases hg
    have := (h.r15 g' hg').1.lt
    omega
theorem RA.alloc15 (h : RA w B g7 u N p r k vp vq a14 none W) : RA w B g7 u N p r k vp vq a14 (some W.heap.size) (W.alloc (.cells (nm false fun _ => 0) 48)) := by
  have f := h.base.fresh
  refine ⟨h.base.below ((Below.refl _ _).alloc (Nat.le_refl _) _), fun g hg => ⟨(h.r14 g hg).1.alloc _, (h.r14 g hg).2⟩, fun g hg => ?_, fun g g' hg hg' => ?_⟩
  · cases hg
    exact ⟨Row.new W _ _, h.base.h8, f.1, f.2⟩
  · cases hg'
    have := (h.r14 g hg).1.lt
    omega
theorem RA.stored {g14 g15 : Nat} (h : RA w B g7 u N p r k vp vq (some g14) (some g15) W) (x y : Array Value) :
    L2 w B g7 u N p r k vp vq (W.setRow g14 x) ∧ Row (W.setRow g14 x) g15 48 (nm false fun _ => 0) ∧ L2 w B g7 u N p r k vp vq ((W.setRow g14 x).setRow g15 y) ∧
      Row ((W.setRow g14 x).setRow g15 y) g14 48 x ∧ Row ((W.setRow g14 x).setRow g15 y) g15 48 y := by
  obtain ⟨a1, a2, a3, a4⟩ := h.r14 g14 rfl
  obtain ⟨b1, b2, b3, b4⟩ := h.r15 g15 rfl
  have hne := h.ne g14 g15 rfl rfl
  have l1 := h.base.setRow a2 a3 a4 x
  have c1 := b1.apart (g' := g14) (fun e => hne e.symm) x
  exact ⟨l1, c1, l1.setRow b2 b3 b4 y, (a1.whole x).apart hne y, c1.whole y⟩
end
end Go.Proofs.Ytpfhkmppbochnaa
