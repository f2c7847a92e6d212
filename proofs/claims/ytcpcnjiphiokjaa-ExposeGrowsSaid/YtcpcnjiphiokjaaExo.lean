/- Arguments opened: a stake, a list of stakes, what they need, a list of numbers; no walk. -/
import Derived.Test.YtcpcnjiphiokjaaTj
import Derived.Test.YtcpcnjiphiokjaaAo
import Derived.Test.YtcpcnjiphiokjaaExg
import Derived.Test.YtcpcnjiphiokjaaExs
import Derived.Test.YtcpcnjiphiokjaaExt
namespace Go.Proofs.Ytcpcnjiphiokjaa
open Go.ChangeShapes Go.WideShapes Go.ChangeAt Go.RowKit
set_option linter.unusedVariables false
set_option maxRecDepth 100000

theorem cells11_st : Try.prog.cellsOf 33 = 29 := by kernel_rfl
theorem cells11_os : Try.prog.cellsOf 31 = 1 := by kernel_rfl
theorem cells11_nd : Try.prog.cellsOf 35 = 3 := by kernel_rfl
section
variable {H : Type} {enc : TypeId × Value → H} {W : World} {base : Nat} {spare : Nat → Bool} {held : Bool}
theorem three_last11 {l : List Value} (h : l.length = 29) : ∃ p a b c, l = p ++ [a, b, c] ∧ p.length = 26 := by
  refine ⟨l.take 26, l[26], l[27], l[28], ?_, by simp [h]⟩
  have e1 : l.drop 26 = l[26] :: l.drop 27 := List.drop_eq_getElem_cons (by omega)
  have e2 : l.drop 27 = l[27] :: l.drop 28 := List.drop_eq_getElem_cons (by omega)
  have e3 : l.drop 28 = l[28] :: l.drop 29 := List.drop_eq_getElem_cons (by omega)
  have e4 : l.drop 29 = [] := List.drop_of_length_le (by omega)
  rw [e4] at e3
  rw [e3] at e2
  rw [e2] at e1
  rw [← e1, List.take_append_drop]
theorem open_skL {fuel : Nat} {l : List Value} {y : DataW H × List MemPlace} (hl : l.length = 29) (hf : DataW.trod enc Try.prog W base spare held fuel 33 l = some y) : ∃ x : Sk, l = EK.cells x ∧ x.ok ∧ x.In W := by
  obtain ⟨p, a, b, c, rfl, hp⟩ := three_last11 hl
  obtain ⟨xs, n, _, hx, _, hlen, hg⟩ := DataW.trod_struct Try.underlying33 hf
  have h4 : xs.length = 4 := hlen
  have g0 : DataW.trod enc Try.prog W base spare held n 30 (((p ++ [a, b, c]).drop 0).take (Try.prog.cellsOf 30)) = xs[0]? := hg 0 _ rfl
  have g1 : DataW.trod enc Try.prog W base spare held n 2 (((p ++ [a, b, c]).drop 26).take (Try.prog.cellsOf 2)) = xs[1]? := hg 1 _ rfl
  have g2 : DataW.trod enc Try.prog W base spare held n 2 (((p ++ [a, b, c]).drop 27).take (Try.prog.cellsOf 2)) = xs[2]? := hg 2 _ rfl
  have g3 : DataW.trod enc Try.prog W base spare held n 31 (((p ++ [a, b, c]).drop 28).take (Try.prog.cellsOf 31)) = xs[3]? := hg 3 _ rfl
  rw [cells10_lq] at g0
  rw [cells_i64] at g1 g2
  rw [cells11_os] at g3
  have d26 : (p ++ [a, b, c]).drop 26 = [a, b, c] := by rw [← hp]; exact List.drop_left' rfl
  have d27 : (p ++ [a, b, c]).drop 27 = [b, c] := by rw [show 27 = 26 + 1 from rfl, ← List.drop_drop, d26]; rfl
  have d28 : (p ++ [a, b, c]).drop 28 = [c] := by rw [show 28 = 26 + 2 from rfl, ← List.drop_drop, d26]; rfl
  have t26 : ((p ++ [a, b, c]).drop 0).take 26 = p := by rw [List.drop_zero, ← hp]; exact List.take_left' rfl
  rw [t26] at g0
  rw [d26] at g1
  rw [d27] at g2
  rw [d28] at g3
  rw [List.getElem?_eq_getElem (by omega)] at g0 g1 g2 g3
  obtain ⟨lg, rfl, ok⟩ := open_lqL10 hp g0
  obtain ⟨ba, e1, _, hw1⟩ := DataW.trod_int Try.underlying2 g1
  obtain ⟨pr, e2, _, hw2⟩ := DataW.trod_int Try.underlying2 g2
  simp at e1 e2
  subst e1 e2
  obtain ⟨A, len, cap, os, e, h1, h2, h3, h4', h5, h6⟩ := open_rows EO.cells Or.ok cells8_or (by decide) (fun x hx => EO.len x) Try.underlying31 (fun f l y hl hf => open_orL8 hl hf) g3
  simp at e
  subst e
  exact ⟨⟨lg, ba, pr, A, len, cap, os⟩, rfl, ⟨ok, bounds_i64 hw1, bounds_i64 hw2, h2, by show len ≤ maxLen; omega, fun e => (h3 e).2, h4'⟩, rd_of8 (E := EO) h1 (fun e => (h3 e).1) h6⟩
theorem open_st11 {r : Reach} {b0 : Nat} {v : Value} {d : DataW H} {p : List MemPlace} (hv : Value.okWide Try.prog W r b0 33 v) (h : DataW.Trod enc Try.prog W base spare held 33 v d p) : ∃ x : Sk, v = .agg (EK.cells x).toArray ∧ x.ok ∧ x.In W := by
  obtain ⟨cs, rfl, hsz⟩ := okWide_struct Try.underlying33 hv
  obtain ⟨l⟩ := cs
  obtain ⟨fuel, hf⟩ := h
  obtain ⟨o, rfl, ok⟩ := open_skL (hsz.trans cells11_st) hf
  exact ⟨o, rfl, ok⟩
theorem open_sks11 {fuel : Nat} {cs : List Value} {x : DataW H × List MemPlace} (h : DataW.trod enc Try.prog W base spare held fuel 22 cs = some x) :
    ∃ (A : Option Addr) (len cap : Nat) (os : List Sk), cs = [.slice A len cap] ∧ EK.Rd W A len os ∧ (∀ x, x ∈ os → x.ok ∧ x.In W) ∧ len ≤ maxLen ∧ (A = none → cap = 0) ∧ len ≤ cap ∧ cap ≤ maxLen := by
  obtain ⟨A, len, cap, os, e, h1, h2, h3, h4, h5, h6⟩ := open_rows EK.cells (fun x => x.ok ∧ x.In W) cells11_st (by decide) (fun x hx => EK.len x) Try.underlying22 (fun f l y hl hf => open_skL hl hf) h
  exact ⟨A, len, cap, os, e, rd_of8 (E := EK) h1 (fun e => (h3 e).1) h6, h2, by omega, fun e => (h3 e).2, h4, h5⟩
theorem open_nd11 {r : Reach} {b0 : Nat} {v : Value} {d : DataW H} {p : List MemPlace} (hv : Value.okWide Try.prog W r b0 35 v) (h : DataW.Trod enc Try.prog W base spare held 35 v d p) : ∃ x : Nd, v = .agg (EN.cells x).toArray ∧ x.ok := by
  obtain ⟨cs, rfl, hsz⟩ := okWide_struct Try.underlying35 hv
  obtain ⟨l⟩ := cs
  obtain ⟨fuel, hf⟩ := h
  have hl : l.length = 3 := hsz.trans cells11_nd
  match l, hl with
  | [c0, c1, c2], _ =>
    obtain ⟨xs, n, _, hx, _, hlen, hg⟩ := DataW.trod_struct Try.underlying35 hf
    have iss : ∀ i, i < 3 → (xs[i]?).isSome = true := fun i hi => by
      have h5 : xs.length = 3 := hlen
      rw [List.getElem?_eq_getElem (by omega)]; rfl
    obtain ⟨m, rfl, k0⟩ := open8_i64 (iss 0 (by omega)) (hg 0 _ rfl)
    obtain ⟨w, rfl, k1⟩ := open8_i64 (iss 1 (by omega)) (hg 1 _ rfl)
    obtain ⟨u, rfl, k2⟩ := open8_i64 (iss 2 (by omega)) (hg 2 _ rfl)
    exact ⟨⟨m, w, u⟩, rfl, k0, k1, k2⟩
/-- Numbers, one cell each. -/
def EI : Elt Int := ⟨fun x => [.int .i64 x], 1, by decide, fun _ => rfl, fun x u hu => by
  simp only [List.mem_cons, List.not_mem_nil, or_false] at hu
  subst hu; rfl⟩
theorem open_is11 {fuel : Nat} {cs : List Value} {x : DataW H × List MemPlace} (h : DataW.trod enc Try.prog W base spare held fuel 45 cs = some x) :
    ∃ (A : Option Addr) (len cap : Nat) (os : List Int), cs = [.slice A len cap] ∧ EI.Rd W A len os ∧ (∀ x, x ∈ os → I64 x) ∧ len ≤ maxLen ∧ (A = none → cap = 0) ∧ len ≤ cap ∧ cap ≤ maxLen := by
  obtain ⟨A, len, cap, os, e, h1, h2, h3, h4, h5, h6⟩ := open_rows EI.cells I64 cells_i64 (by decide) (fun x hx => EI.len x) Try.underlying45 (fun f l y hl hf => by
    match l, hl with
    | [c], _ =>
      obtain ⟨a, e, _, hw⟩ := DataW.trod_int Try.underlying2 hf
      simp only [List.cons.injEq, and_true] at e
      subst e
      exact ⟨a, rfl, bounds_i64 hw⟩) h
  exact ⟨A, len, cap, os, e, rd_of8 (E := EI) h1 (fun e => (h3 e).1) h6, h2, by omega, fun e => (h3 e).2, h4, h5⟩
end
end Go.Proofs.Ytcpcnjiphiokjaa
