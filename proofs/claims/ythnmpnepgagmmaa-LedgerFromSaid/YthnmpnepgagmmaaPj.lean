/- Arguments opened: lists of accounts, of positions; no program's function. -/
import Derived.Test.YthnmpnepgagmmaaLe
import Derived.Test.YthnmpnepgagmmaaPg
import Derived.Test.YthnmpnepgagmmaaPh
namespace Go.Proofs.Ythnmpnepgagmmaa
open Go.ChangeShapes Go.WideShapes Go.ChangeAt Go.RowKit
set_option linter.unusedVariables false
set_option maxRecDepth 100000

theorem rfrom_whole : RFromP := fun A A' n c n' c' fund al hl w h h' hA hA' hok hok' hn hn' => rfrom9 A A' n c n' c' fund al hl w h h' hA hA' hok hok' hn hn'
theorem cells9_po : Try.prog.cellsOf 47 = 4 := by kernel_rfl
section
variable {H : Type} {enc : TypeId × Value → H} {W : World} {base : Nat} {spare : Nat → Bool} {held : Bool}
theorem open_poL9 {fuel : Nat} {l : List Value} {y : DataW H × List MemPlace} (hl : l.length = 4) (hf : DataW.trod enc Try.prog W base spare held fuel 47 l = some y) : ∃ o : Po, l = EP.cells o ∧ o.ok := by
  match l, hl with
  | [c0, c1, c2, c3], _ =>
    obtain ⟨xs, n, _, hx, _, hlen, hg⟩ := DataW.trod_struct Try.underlying47 hf
    have iss : ∀ i, i < 4 → (xs[i]?).isSome = true := fun i hi => by
      have h5 : xs.length = 4 := hlen
      rw [List.getElem?_eq_getElem (by omega)]; rfl
    obtain ⟨co, rfl, k0⟩ := open9_u32 (iss 0 (by omega)) (hg 0 _ rfl)
    obtain ⟨ac, rfl, k1⟩ := open9_u32 (iss 1 (by omega)) (hg 1 _ rfl)
    obtain ⟨q, rfl, k2⟩ := open9_i64 (iss 2 (by omega)) (hg 2 _ rfl)
    obtain ⟨b, rfl, k3⟩ := open9_i64 (iss 3 (by omega)) (hg 3 _ rfl)
    exact ⟨⟨co, ac, q, b⟩, rfl, k0, k1, k2, k3⟩
theorem open_acs9 {fuel : Nat} {cs : List Value} {x : DataW H × List MemPlace} (h : DataW.trod enc Try.prog W base spare held fuel 26 cs = some x) :
    ∃ (A : Option Addr) (len cap : Nat) (os : List Ac), cs = [.slice A len cap] ∧ EA.Rd W A len os ∧ (∀ x, x ∈ os → x.ok) ∧ len ≤ maxLen ∧ (A = none → cap = 0) ∧ len ≤ cap ∧ cap ≤ maxLen := by
  obtain ⟨A, len, cap, os, e, h1, h2, h3, h4, h5, h6⟩ := open_rows EA.cells Ac.ok cells9_ac (by decide) (fun x hx => EA.len x) Try.underlying26 (fun f l y hl hf => open_acL9 hl hf) h
  exact ⟨A, len, cap, os, e, rd_of9 (E := EA) h1 (fun e => (h3 e).1) h6, h2, by omega, fun e => (h3 e).2, h4, h5⟩
theorem open_pos9 {fuel : Nat} {cs : List Value} {x : DataW H × List MemPlace} (h : DataW.trod enc Try.prog W base spare held fuel 27 cs = some x) :
    ∃ (A : Option Addr) (len cap : Nat) (os : List Po), cs = [.slice A len cap] ∧ EP.Rd W A len os ∧ (∀ x, x ∈ os → x.ok) ∧ len ≤ maxLen ∧ (A = none → cap = 0) ∧ len ≤ cap ∧ cap ≤ maxLen := by
  obtain ⟨A, len, cap, os, e, h1, h2, h3, h4, h5, h6⟩ := open_rows EP.cells Po.ok cells9_po (by decide) (fun x hx => EP.len x) Try.underlying27 (fun f l y hl hf => open_poL9 hl hf) h
  exact ⟨A, len, cap, os, e, rd_of9 (E := EP) h1 (fun e => (h3 e).1) h6, h2, by omega, fun e => (h3 e).2, h4, h5⟩
end
end Go.Proofs.Ythnmpnepgagmmaa
