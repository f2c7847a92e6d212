/- Contract of the document's plain product: the digits of the product, and its sign. -/
import Derived.Test.YtgjaknfphokjpaaRefF
import Derived.Test.YtgjaknfphokjpaaTimesMath
namespace Go.Proofs.Ytgjaknfphokjpaa
open Go.RowKit

/-- What stands in memory while two numbers are multiplied. -/
structure TS (w : World) (s t : Bool) (A C : Int) (h : Nat → Int) (W : World) : Prop where
  r1 : Row W w.heap.size 42 (nm s (dgs A))
  r2 : Row W (w.heap.size + 1) 42 (nm t (dgs C))
  r3 : Row W (w.heap.size + 1 + 1) 42 (nm false fun _ => 0)
  r4 : Row W (w.heap.size + 1 + 1 + 1) 40 (ar h)
  q : Quiet w W
theorem TS.drewN {w : World} {s t : Bool} {A C : Int} {h : Nat → Int} {W : World} (k : TS w s t A C h W) (n : Nat) : TS w s t A C h (W.drewN n) := ⟨k.r1, k.r2, k.r3, k.r4, k.q.drewN n⟩
theorem TS.put {w : World} {s t : Bool} {A C : Int} {h : Nat → Int} {W : World} (k : TS w s t A C h W) (i : Nat) (v : Int) : TS w s t A C (upd h i v) (W.setCell ⟨w.heap.size + 1 + 1 + 1, i, none⟩ (.int .u64 v)) :=
  ⟨k.r1.far (by omega) _, k.r2.far (by omega) _, k.r3.far (by omega) _, k.r4.put i v, k.q.setCell (by show w.heap.size ≤ w.heap.size + 1 + 1 + 1; omega) _⟩
theorem TS.ext {w : World} {s t : Bool} {A C : Int} {h g : Nat → Int} {W : World} (k : TS w s t A C h W) (e : ar h = ar g) : TS w s t A C g W := ⟨k.r1, k.r2, k.r3, by rw [← e]; exact k.r4, k.q⟩

theorem mix_low (E X : Int) (i : Nat) : ar (mix (i + 0) (dgs (E + Rf.T i * X)) (dgs E)) = ar (dgs E) := ar_ext fun j _ => by
  unfold mix
  by_cases h : j < i + 0
  · rw [if_pos h]; exact Rf.dg_low E X i j (by omega)
  · rw [if_neg h]

set_option maxHeartbeats 4000000 in
theorem times_any (s t : Bool) (A C : Int) (hA : 0 ≤ A) (hA1 : A < Rf.T 12) (w : World) :
    Calls Try.prog 42 #[.agg (nm s (dgs A)), .agg (nm t (dgs C))] w fun e w' => e = .returned (.agg (nm (!s == t) (dgs (A * C)))) ∧ Quiet w w' := by
  have HA := Lib.hid (Rf.md_all A 12 hA hA1)
  clear hA hA1
  go_enter Try.func42, Try.ntmps42
  go_wp2_with fail
  go_loopw [6] (fun i wr => ∃ k : Nat, k ≤ 12 ∧ i = .int .i64 k ∧ TS w s t A C (dgs (Rf.md A k * C)) wr) (fun i _ => 12 - (intOf i).toNat)
  case atStart =>
    refine ⟨0, by omega, rfl, ⟨(((Row.new w _ _).alloc _).alloc _).alloc _, ((Row.at_ (w.alloc _) _ _ (by simp)).alloc _).alloc _, (Row.at_ ((w.alloc _).alloc _) _ _ (by simp)).alloc _, ?_, ((((Quiet.refl w).alloc _ _).alloc _ _).alloc _ _).alloc _ _⟩⟩
    rw [Rf.md_zero, Int.zero_mul]
    exact Row.at_ (((w.alloc _).alloc _).alloc _) _ _ (by simp)
  case round =>
    obtain ⟨i, hi, rfl, S⟩ := hrel
    by_cases hlt : i < 12
    · obtain ⟨wo, hwo⟩ : ∃ wo : World, wo = wr := ⟨_, rfl⟩
      rw [← hwo] at S ⊢
      clear hwo
      have ba := dgs_bd A i
      have HS := Lib.hid S
      clear S
      go_wp2_with fail
      go_loopw [7, 8] (fun c j wr => ∃ k : Nat, i + k ≤ 12 ∧ j = .int .i64 k ∧ c = .int .u64 (Rf.mc (Rf.md A i * C) C (dgs A i) i k) ∧ TS w s t A C (mix (i + k) (dgs (Rf.md A i * C + Rf.T i * (dgs A i * C))) (dgs (Rf.md A i * C))) wr) (fun _ j _ => 12 - (intOf j).toNat)
      case atStart => exact ⟨0, by omega, rfl, by rw [Rf.mc_zero], HS.out.ext (mix_low _ _ _).symm⟩
      case round =>
        obtain ⟨k, hk, rfl, rfl, S⟩ := hrel
        by_cases hl2 : i + k < 12
        · have c1 := S.r4.cell (i + k) hl2
          rw [mix_at] at c1
          have c2 := S.r1.digit i hlt
          have c3 := S.r2.digit k (by omega)
          have f1 := S.r4.free (i + k)
          have bc := Rf.mc_bd (Rf.md A i * C) C (dgs A i) i k ba.1 ba.2
          have be := dgs_bd (Rf.md A i * C) (i + k)
          have bb := dgs_bd C k
          obtain ⟨ba1, ba2⟩ := ba
          obtain ⟨bc1, bc2⟩ := bc
          obtain ⟨be1, be2⟩ := be
          obtain ⟨bb1, bb2⟩ := bb
          have bm1 : 0 ≤ dgs A i * dgs C k := Int.mul_nonneg ba1 bb1
          have bm2 : dgs A i * dgs C k ≤ 4294836225 := Int.mul_le_mul ba2 bb2 bb1 (by decide)
          have E1 := Lib.hid (Rf.mc_succ (Rf.md A i * C) C (dgs A i) i k)
          have E2 := Lib.hid (Rf.mc_dg (Rf.md A i * C) C (dgs A i) i k)
          have KS := Lib.hid S
          clear S
          go_wp2
          go_quiet (fail)
          go_wp2
          go_roundw
          case rel =>
            refine ⟨k + 1, by omega, by go_num, by rw [E1.out]; rfl, ?_⟩
            exact ((KS.out.drewN nq).put (i + k) _).ext (mix_put (i + k) _ _ E2.out)
          case measure => simp [intOf]; omega
        · have e12 : i + k = 12 := by omega
          rw [e12] at S
          clear e12
          have S' := S.ext (mix_all _ _)
          have KS : Hid (TS w s t A C (dgs (Rf.md A (i + 1) * C)) wr) := Lib.hid (by rw [Rf.prod_succ]; exact S')
          clear S S'
          go_wp2
          go_roundw
          case rel => exact ⟨i + 1, by omega, by go_num, KS.out⟩
          case measure => simp [intOf]; omega
    · obtain rfl : i = 12 := by omega
      rw [HA.out] at S
      have c1 := S.r1.sign
      have c2 := S.r2.sign
      have KS := Lib.hid S
      clear S
      go_wp2_with (first
        | ((with_reducible refine wl_load_ar (w.heap.size + 1 + 1 + 1) 0 (dgs (A * C)) ?_ ?_ ?_); rfl; exact KS.out.r4.range0)
        | ((with_reducible refine wl_build (!s == t) (dgs (A * C)) ?_ ?_ ?_); rfl; rfl)
        | ((with_reducible refine wl_store_nm (w.heap.size + 1 + 1) (!s == t) false (dgs (A * C)) (fun _ => 0) ?_ ?_ ?_ ?_); rfl; rfl; exact KS.out.r3))
      exact bodyPost_ret (v := .agg (nm (!s == t) (dgs (A * C)))) (results_cell_row rfl _ _ (w.heap.size + 1 + 1) 42 _ (0, 0) _ rfl (KS.out.r3.whole _) Try.underlying42 rfl (by kernel_rfl)) rfl
        ⟨rfl, KS.out.q.setRow KS.out.r3 (by omega) _⟩
end Go.Proofs.Ytgjaknfphokjpaa
