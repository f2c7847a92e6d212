/- An argument that is a contract's data, opened: it reads as ten fields, each fitting its kind. -/
import Derived.Test.YtmelpikncdnloaaQd
import Derived.OpenShut
import Derived.ProofKit
namespace Go.Proofs.Ytmelpikncdnloaa
open Go.ChangeShapes Go.WideShapes Go.ChangeAt Go.RowKit

theorem cells_sp : Try.prog.cellsOf 25 = 25 := by kernel_rfl
theorem cells_i64 : Try.prog.cellsOf 2 = 1 := by kernel_rfl
theorem cells_u32 : Try.prog.cellsOf 22 = 1 := by kernel_rfl
theorem cells_u8 : Try.prog.cellsOf 5 = 1 := by kernel_rfl
theorem cells_arr : Try.prog.cellsOf 23 = 16 := by kernel_rfl
section
variable {H : Type} {enc : TypeId × Value → H} {W : World} {base : Nat} {spare : Nat → Bool} {held : Bool}
theorem open_i64 {n : Nat} {c : Value} {y : Option (DataW H × List MemPlace)} (hy : y.isSome = true) (h : DataW.trod enc Try.prog W base spare held n 2 [c] = y) : ∃ a : Int, c = .int .i64 a ∧ I64 a := by
  obtain ⟨z, rfl⟩ := Option.isSome_iff_exists.1 hy
  obtain ⟨a, e, _, hw⟩ := DataW.trod_int Try.underlying2 h
  simp only [List.cons.injEq, and_true] at e
  exact ⟨a, e, bounds_i64 hw⟩
theorem open_u32 {n : Nat} {c : Value} {y : Option (DataW H × List MemPlace)} (hy : y.isSome = true) (h : DataW.trod enc Try.prog W base spare held n 22 [c] = y) : ∃ a : Int, c = .int .u32 a ∧ 0 ≤ a ∧ a ≤ 4294967295 := by
  obtain ⟨z, rfl⟩ := Option.isSome_iff_exists.1 hy
  obtain ⟨a, e, _, hw⟩ := DataW.trod_int Try.underlying22 h
  simp only [List.cons.injEq, and_true] at e
  exact ⟨a, e, bounds_u32 hw⟩
theorem open_u8 {n : Nat} {c : Value} {y : Option (DataW H × List MemPlace)} (hy : y.isSome = true) (h : DataW.trod enc Try.prog W base spare held n 5 [c] = y) : ∃ a : Int, c = .int .u8 a ∧ 0 ≤ a ∧ a ≤ 255 := by
  obtain ⟨z, rfl⟩ := Option.isSome_iff_exists.1 hy
  obtain ⟨a, e, _, hw⟩ := DataW.trod_int Try.underlying5 h
  simp only [List.cons.injEq, and_true] at e
  exact ⟨a, e, bounds_u8 hw⟩
set_option maxHeartbeats 2000000 in
set_option maxRecDepth 100000 in
theorem open_specL {fuel : Nat} {l : List Value} {y : DataW H × List MemPlace} (hl : l.length = 25) (hf : DataW.trod enc Try.prog W base spare held fuel 25 l = some y) : ∃ s : Sp, l = s.cellL ∧ s.ok := by
  match l, hl with
  | [c0, c1, c2, c3, c4, c5, x0, x1, x2, x3, x4, x5, x6, x7, x8, x9, x10, x11, x12, x13, x14, x15, c7, c8, c9], _ =>
    obtain ⟨xs, n, _, hx, _, hlen, hg⟩ := DataW.trod_struct Try.underlying25 hf
    have iss : ∀ i, i < 10 → (xs[i]?).isSome = true := fun i hi => by
      have h10 : xs.length = 10 := hlen
      rw [List.getElem?_eq_getElem (by omega)]; rfl
    have g0 := hg 0 _ rfl
    have g1 := hg 1 _ rfl
    have g2 := hg 2 _ rfl
    have g3 := hg 3 _ rfl
    have g4 := hg 4 _ rfl
    have g5 := hg 5 _ rfl
    have g6 := hg 6 _ rfl
    have g7 := hg 7 _ rfl
    have g8 := hg 8 _ rfl
    have g9 := hg 9 _ rfl
    obtain ⟨nu, rfl, k0⟩ := open_u32 (iss 0 (by omega)) g0
    obtain ⟨ro, rfl, k1⟩ := open_u8 (iss 1 (by omega)) g1
    obtain ⟨ti, rfl, k2⟩ := open_i64 (iss 2 (by omega)) g2
    obtain ⟨lo, rfl, k3⟩ := open_i64 (iss 3 (by omega)) g3
    obtain ⟨ba, rfl, k4⟩ := open_i64 (iss 4 (by omega)) g4
    obtain ⟨li, rfl, k5⟩ := open_i64 (iss 5 (by omega)) g5
    obtain ⟨cr, rfl, k7⟩ := open_i64 (iss 7 (by omega)) g7
    obtain ⟨la, rfl, k8⟩ := open_u32 (iss 8 (by omega)) g8
    obtain ⟨fi, rfl, k9⟩ := open_i64 (iss 9 (by omega)) g9
    have g6' : DataW.trod enc Try.prog W base spare held n 23 [x0, x1, x2, x3, x4, x5, x6, x7, x8, x9, x10, x11, x12, x13, x14, x15] = xs[6]? := g6
    obtain ⟨z6, hz6⟩ := Option.isSome_iff_exists.1 (iss 6 (by omega))
    rw [hz6] at g6'
    obtain ⟨ys, m, _, _, _, hyl, hi⟩ := DataW.trod_array Try.underlying23 g6'
    have isy : ∀ i, i < 16 → (ys[i]?).isSome = true := fun i hi => by
      rw [List.getElem?_eq_getElem (by omega)]; rfl
    have e0 : DataW.trod enc Try.prog W base spare held m 2 [x0] = ys[0]? := hi 0 (by omega)
    obtain ⟨s0, rfl, q0⟩ := open_i64 (isy 0 (by omega)) e0
    have e1 : DataW.trod enc Try.prog W base spare held m 2 [x1] = ys[1]? := hi 1 (by omega)
    obtain ⟨s1, rfl, q1⟩ := open_i64 (isy 1 (by omega)) e1
    have e2 : DataW.trod enc Try.prog W base spare held m 2 [x2] = ys[2]? := hi 2 (by omega)
    obtain ⟨s2, rfl, q2⟩ := open_i64 (isy 2 (by omega)) e2
    have e3 : DataW.trod enc Try.prog W base spare held m 2 [x3] = ys[3]? := hi 3 (by omega)
    obtain ⟨s3, rfl, q3⟩ := open_i64 (isy 3 (by omega)) e3
    have e4 : DataW.trod enc Try.prog W base spare held m 2 [x4] = ys[4]? := hi 4 (by omega)
    obtain ⟨s4, rfl, q4⟩ := open_i64 (isy 4 (by omega)) e4
    have e5 : DataW.trod enc Try.prog W base spare held m 2 [x5] = ys[5]? := hi 5 (by omega)
    obtain ⟨s5, rfl, q5⟩ := open_i64 (isy 5 (by omega)) e5
    have e6 : DataW.trod enc Try.prog W base spare held m 2 [x6] = ys[6]? := hi 6 (by omega)
    obtain ⟨s6, rfl, q6⟩ := open_i64 (isy 6 (by omega)) e6
    have e7 : DataW.trod enc Try.prog W base spare held m 2 [x7] = ys[7]? := hi 7 (by omega)
    obtain ⟨s7, rfl, q7⟩ := open_i64 (isy 7 (by omega)) e7
    have e8 : DataW.trod enc Try.prog W base spare held m 2 [x8] = ys[8]? := hi 8 (by omega)
    obtain ⟨s8, rfl, q8⟩ := open_i64 (isy 8 (by omega)) e8
    have e9 : DataW.trod enc Try.prog W base spare held m 2 [x9] = ys[9]? := hi 9 (by omega)
    obtain ⟨s9, rfl, q9⟩ := open_i64 (isy 9 (by omega)) e9
    have e10 : DataW.trod enc Try.prog W base spare held m 2 [x10] = ys[10]? := hi 10 (by omega)
    obtain ⟨s10, rfl, q10⟩ := open_i64 (isy 10 (by omega)) e10
    have e11 : DataW.trod enc Try.prog W base spare held m 2 [x11] = ys[11]? := hi 11 (by omega)
    obtain ⟨s11, rfl, q11⟩ := open_i64 (isy 11 (by omega)) e11
    have e12 : DataW.trod enc Try.prog W base spare held m 2 [x12] = ys[12]? := hi 12 (by omega)
    obtain ⟨s12, rfl, q12⟩ := open_i64 (isy 12 (by omega)) e12
    have e13 : DataW.trod enc Try.prog W base spare held m 2 [x13] = ys[13]? := hi 13 (by omega)
    obtain ⟨s13, rfl, q13⟩ := open_i64 (isy 13 (by omega)) e13
    have e14 : DataW.trod enc Try.prog W base spare held m 2 [x14] = ys[14]? := hi 14 (by omega)
    obtain ⟨s14, rfl, q14⟩ := open_i64 (isy 14 (by omega)) e14
    have e15 : DataW.trod enc Try.prog W base spare held m 2 [x15] = ys[15]? := hi 15 (by omega)
    obtain ⟨s15, rfl, q15⟩ := open_i64 (isy 15 (by omega)) e15
    refine ⟨⟨nu, ro, ti, lo, ba, li, [s0, s1, s2, s3, s4, s5, s6, s7, s8, s9, s10, s11, s12, s13, s14, s15], cr, la, fi⟩, rfl, ⟨k0, k1, k2, k3, k4, k5, rfl, ?_, k7, k8, k9⟩⟩
    intro x hx
    simp only [List.mem_cons, List.not_mem_nil, or_false] at hx
    rcases hx with rfl | rfl | rfl | rfl | rfl | rfl | rfl | rfl | rfl | rfl | rfl | rfl | rfl | rfl | rfl | rfl
    · exact q0
    · exact q1
    · exact q2
    · exact q3
    · exact q4
    · exact q5
    · exact q6
    · exact q7
    · exact q8
    · exact q9
    · exact q10
    · exact q11
    · exact q12
    · exact q13
    · exact q14
    · exact q15
theorem open_spec {r : Reach} {b0 : Nat} {v : Value} {d : DataW H} {p : List MemPlace} (hv : Value.okWide Try.prog W r b0 25 v) (h : DataW.Trod enc Try.prog W base spare held 25 v d p) : ∃ s : Sp, v = .agg s.cells ∧ s.ok := by
  obtain ⟨cs, rfl, hsz⟩ := okWide_struct Try.underlying25 hv
  obtain ⟨l⟩ := cs
  obtain ⟨fuel, hf⟩ := h
  obtain ⟨s, rfl, ok⟩ := open_specL (hsz.trans cells_sp) hf
  exact ⟨s, rfl, ok⟩
end
end Go.Proofs.Ytmelpikncdnloaa
