/- Arguments opened: what stands at the gate; no walk. -/
import Derived.Test.YtmelpikncdnloaaQo
import Derived.Test.YtmelpikncdnloaaGta
namespace Go.Proofs.Ytmelpikncdnloaa
open Go.ChangeShapes Go.WideShapes Go.ChangeAt Go.RowKit
set_option linter.unusedVariables false
set_option maxRecDepth 100000

theorem cells12_ct : Try.prog.cellsOf 28 = 27 := by kernel_rfl
theorem cells12_st : Try.prog.cellsOf 26 = 1 := by kernel_rfl
theorem cells12_ac : Try.prog.cellsOf 30 = 4 := by kernel_rfl
theorem cells12_bo : Try.prog.cellsOf 4 = 1 := by kernel_rfl
theorem cells12_gt : Try.prog.cellsOf 32 = 37 := by kernel_rfl
section
variable {H : Type} {enc : TypeId × Value → H} {W : World} {base : Nat} {spare : Nat → Bool} {held : Bool}
theorem open12_bool {n : Nat} {c : Value} {y : Option (DataW H × List MemPlace)} (hy : y.isSome = true) (h : DataW.trod enc Try.prog W base spare held n 4 [c] = y) : ∃ a : Bool, c = .bool a := by
  obtain ⟨z, rfl⟩ := Option.isSome_iff_exists.1 hy
  obtain ⟨a, e, _⟩ := DataW.trod_bool Try.underlying4 h
  simp only [List.cons.injEq, and_true] at e
  exact ⟨a, e⟩
theorem open12_ct {fuel : Nat} {p : List Value} {a b : Value} {y : DataW H × List MemPlace} (hp : p.length = 25) (hf : DataW.trod enc Try.prog W base spare held fuel 28 (p ++ [a, b]) = some y) : ∃ (s : Sp) (st pr : Int), p = s.cellL ∧ a = .int .u8 st ∧ b = .int .i64 pr ∧ s.ok ∧ (0 ≤ st ∧ st ≤ 255) ∧ I64 pr := by
  obtain ⟨xs, n, _, hx, _, hlen, hg⟩ := DataW.trod_struct Try.underlying28 hf
  have h3 : xs.length = 3 := hlen
  have g0 : DataW.trod enc Try.prog W base spare held n 25 (((p ++ [a, b]).drop 0).take (Try.prog.cellsOf 25)) = xs[0]? := hg 0 _ rfl
  have g1 : DataW.trod enc Try.prog W base spare held n 26 (((p ++ [a, b]).drop 25).take (Try.prog.cellsOf 26)) = xs[1]? := hg 1 _ rfl
  have g2 : DataW.trod enc Try.prog W base spare held n 2 (((p ++ [a, b]).drop 26).take (Try.prog.cellsOf 2)) = xs[2]? := hg 2 _ rfl
  rw [cells_sp] at g0
  rw [cells12_st] at g1
  rw [cells_i64] at g2
  have d25 : (p ++ [a, b]).drop 25 = [a, b] := by rw [← hp]; exact List.drop_left' rfl
  have d26 : (p ++ [a, b]).drop 26 = [b] := by rw [show 26 = 25 + 1 from rfl, ← List.drop_drop, d25]; rfl
  have t25 : ((p ++ [a, b]).drop 0).take 25 = p := by rw [List.drop_zero, ← hp]; exact List.take_left' rfl
  rw [t25] at g0
  rw [d25] at g1
  rw [d26] at g2
  rw [List.getElem?_eq_getElem (by omega)] at g0 g1 g2
  obtain ⟨s, rfl, ok⟩ := open_specL hp g0
  obtain ⟨st, e1, _, hw1⟩ := DataW.trod_int Try.underlying26 g1
  obtain ⟨pr, e2, _, hw2⟩ := DataW.trod_int Try.underlying2 g2
  simp at e1 e2
  subst e1 e2
  exact ⟨s, st, pr, rfl, rfl, rfl, ok, bounds_u8 hw1, bounds_i64 hw2⟩
theorem open12_ac {fuel : Nat} {c0 c1 c2 c3 : Value} {y : DataW H × List MemPlace} (hf : DataW.trod enc Try.prog W base spare held fuel 30 [c0, c1, c2, c3] = some y) : ∃ (nu ca : Int) (ki de : Bool), c0 = .int .u32 nu ∧ c1 = .int .i64 ca ∧ c2 = .bool ki ∧ c3 = .bool de ∧ (0 ≤ nu ∧ nu ≤ 4294967295) ∧ I64 ca := by
  obtain ⟨xs, n, _, hx, _, hlen, hg⟩ := DataW.trod_struct Try.underlying30 hf
  have iss : ∀ i, i < 4 → (xs[i]?).isSome = true := fun i hi => by
    have h5 : xs.length = 4 := hlen
    rw [List.getElem?_eq_getElem (by omega)]; rfl
  obtain ⟨nu, rfl, k0⟩ := open_u32 (iss 0 (by omega)) (hg 0 _ rfl)
  obtain ⟨ca, rfl, k1⟩ := open_i64 (iss 1 (by omega)) (hg 1 _ rfl)
  obtain ⟨ki, rfl⟩ := open12_bool (iss 2 (by omega)) (hg 2 _ rfl)
  obtain ⟨de, rfl⟩ := open12_bool (iss 3 (by omega)) (hg 3 _ rfl)
  exact ⟨nu, ca, ki, de, rfl, rfl, rfl, rfl, k0, k1⟩
theorem parts12 {l : List Value} (h : l.length = 37) : ∃ p q, l = p ++ q ∧ p.length = 25 ∧ q.length = 12 := ⟨l.take 25, l.drop 25, (List.take_append_drop 25 l).symm, by simp [h], by simp [h]⟩
theorem open12_gtL {fuel : Nat} {l : List Value} {y : DataW H × List MemPlace} (hl : l.length = 37) (hf : DataW.trod enc Try.prog W base spare held fuel 32 l = some y) : ∃ g : Gt, l = EG.cells g ∧ g.ok := by
  obtain ⟨p, q, rfl, hp, hq⟩ := parts12 hl
  match q, hq with
  | [a, b, c0, c1, c2, c3, d0, d1, d2, d3, d4, d5], _ =>
    obtain ⟨xs, n, _, hx, _, hlen, hg⟩ := DataW.trod_struct Try.underlying32 hf
    have h8 : xs.length = 8 := hlen
    have iss : ∀ i, i < 8 → (xs[i]?).isSome = true := fun i hi => by
      rw [List.getElem?_eq_getElem (by omega)]; rfl
    have d25 : (p ++ [a, b, c0, c1, c2, c3, d0, d1, d2, d3, d4, d5]).drop 25 = [a, b, c0, c1, c2, c3, d0, d1, d2, d3, d4, d5] := by rw [← hp]; exact List.drop_left' rfl
    have dd : ∀ i, (p ++ [a, b, c0, c1, c2, c3, d0, d1, d2, d3, d4, d5]).drop (25 + i) = [a, b, c0, c1, c2, c3, d0, d1, d2, d3, d4, d5].drop i := fun i => by rw [← List.drop_drop, d25]
    have t27 : ((p ++ [a, b, c0, c1, c2, c3, d0, d1, d2, d3, d4, d5]).drop 0).take 27 = p ++ [a, b] := by
      rw [List.drop_zero, List.take_append, hp, List.take_of_length_le (by omega)]; rfl
    have g0 : DataW.trod enc Try.prog W base spare held n 28 (((p ++ [a, b, c0, c1, c2, c3, d0, d1, d2, d3, d4, d5]).drop 0).take (Try.prog.cellsOf 28)) = xs[0]? := hg 0 _ rfl
    have g1 : DataW.trod enc Try.prog W base spare held n 30 (((p ++ [a, b, c0, c1, c2, c3, d0, d1, d2, d3, d4, d5]).drop (25 + 2)).take (Try.prog.cellsOf 30)) = xs[1]? := hg 1 _ rfl
    have g2 : DataW.trod enc Try.prog W base spare held n 2 (((p ++ [a, b, c0, c1, c2, c3, d0, d1, d2, d3, d4, d5]).drop (25 + 6)).take (Try.prog.cellsOf 2)) = xs[2]? := hg 2 _ rfl
    have g3 : DataW.trod enc Try.prog W base spare held n 2 (((p ++ [a, b, c0, c1, c2, c3, d0, d1, d2, d3, d4, d5]).drop (25 + 7)).take (Try.prog.cellsOf 2)) = xs[3]? := hg 3 _ rfl
    have g4 : DataW.trod enc Try.prog W base spare held n 2 (((p ++ [a, b, c0, c1, c2, c3, d0, d1, d2, d3, d4, d5]).drop (25 + 8)).take (Try.prog.cellsOf 2)) = xs[4]? := hg 4 _ rfl
    have g5 : DataW.trod enc Try.prog W base spare held n 4 (((p ++ [a, b, c0, c1, c2, c3, d0, d1, d2, d3, d4, d5]).drop (25 + 9)).take (Try.prog.cellsOf 4)) = xs[5]? := hg 5 _ rfl
    have g6 : DataW.trod enc Try.prog W base spare held n 2 (((p ++ [a, b, c0, c1, c2, c3, d0, d1, d2, d3, d4, d5]).drop (25 + 10)).take (Try.prog.cellsOf 2)) = xs[6]? := hg 6 _ rfl
    have g7 : DataW.trod enc Try.prog W base spare held n 2 (((p ++ [a, b, c0, c1, c2, c3, d0, d1, d2, d3, d4, d5]).drop (25 + 11)).take (Try.prog.cellsOf 2)) = xs[7]? := hg 7 _ rfl
    rw [cells12_ct, t27, List.getElem?_eq_getElem (by omega)] at g0
    rw [cells12_ac, dd, List.getElem?_eq_getElem (by omega)] at g1
    rw [cells_i64, dd] at g2 g3 g4 g6 g7
    rw [cells12_bo, dd] at g5
    obtain ⟨s, st, pr, rfl, rfl, rfl, ok, o1, o2⟩ := open12_ct hp g0
    obtain ⟨nu, ca, ki, de, rfl, rfl, rfl, rfl, o3, o4⟩ := open12_ac g1
    obtain ⟨q, rfl, o5⟩ := open_i64 (iss 2 (by omega)) g2
    obtain ⟨bu, rfl, o6⟩ := open_i64 (iss 3 (by omega)) g3
    obtain ⟨se, rfl, o7⟩ := open_i64 (iss 4 (by omega)) g4
    obtain ⟨by', rfl⟩ := open12_bool (iss 5 (by omega)) g5
    obtain ⟨px, rfl, o8⟩ := open_i64 (iss 6 (by omega)) g6
    obtain ⟨qt, rfl, o9⟩ := open_i64 (iss 7 (by omega)) g7
    exact ⟨⟨s, st, pr, nu, ca, ki, de, q, bu, se, by', px, qt, ok.len⟩, rfl, ok, o1, o2, o3, o4, o5, o6, o7, o8, o9⟩
theorem open_gt12 {r : Reach} {b0 : Nat} {v : Value} {d : DataW H} {p : List MemPlace} (hv : Value.okWide Try.prog W r b0 32 v) (h : DataW.Trod enc Try.prog W base spare held 32 v d p) : ∃ g : Gt, v = .agg (EG.cells g).toArray ∧ g.ok := by
  obtain ⟨cs, rfl, hsz⟩ := okWide_struct Try.underlying32 hv
  obtain ⟨l⟩ := cs
  obtain ⟨fuel, hf⟩ := h
  obtain ⟨o, rfl, ok⟩ := open12_gtL (hsz.trans cells12_gt) hf
  exact ⟨o, rfl, ok⟩
end
end Go.Proofs.Ytmelpikncdnloaa
