/-
  No cell of these rows narrows 'for every input' (looked for: loops, veiled, ifaces, maps, wideKeys, modest, calm, conditions, laid).
  DERIVED. THE GIVEN ROWS OF THIS SEAT. 5 by the template 'for every input the law returns true; each argument reads behind the call as it read before'; 0 by the template 'total and deterministic' (their statements: YtlnakhbcefmiaaaTotals.lean).
  GIVEN WITH THE SEED: the statements are not yours to turn. If you find one false, say at which input.
  Laid BY PROGRAM, IN A SANDBOX (cutbox-rows.mjs): the forced cells as the released guide's own fill.sh prints them over the translation 225bc8c788e00d97… (all of the seat's roots in one cut). By AI agents, Wed Nov 11 2026. No macro, syntax, notation, axiom, sorry.
-/
import Derived.Test.YtlnakhbcefmiaaaChecked
import GoSem.Claim
import GoSem.ClaimJoined
import GoSem.ClaimMapViews
import Derived.JoinedTies
import Derived.KernelRfl
namespace Go.Proofs.Ytlnakhbcefmiaaa
/- THE CELL 'sum', in the pinned program and in every row, IS THE sha256 OF THE DUMP (.gsa) THAT YtlnakhbcefmiaaaProg.lean LOADS. Nothing in Lean hashes anything: it is a label: what it is worth is what the hold of that sum in a sandbox is worth. -/
noncomputable def Try.pinned : Pinned := { name := "ytlnakhbcefmiaaa", sum := "225bc8c788e00d9720b8121f56f6daccc0f8ac42123742cd3931f524ad3ed575", checked := Try.checked }
namespace Rows
def none {H : Type} : Left H := { results := [], args := [] }

/-- 'broadsidelaw04.SpecMay': WHATEVER THE INPUT: true; the input reads as it did. -/
def specMaySpec : ChangeSpec := { name := "specMay", fn := fun _ => fun
  | [d1, d2, d3] => { results := [.lit (.bool true)], args := [d1, d2, d3] }
  | _ => none }
def specMayRow : OpenClaim := { program := "ytlnakhbcefmiaaa", sum := "225bc8c788e00d9720b8121f56f6daccc0f8ac42123742cd3931f524ad3ed575", func := "broadside/broadsidelaw04.SpecMay", spec := "specMay", apart := false }
def SpecMaySaid : Prop := specMayRow.holds Try.pinned (OpenSpec.ofChange specMaySpec)

/-- ITS FALSE NEIGHBOUR: 'it returns false'. Refute it at one input. -/
def specMayWrong : ChangeSpec := { name := "specMay", fn := fun _ => fun
  | [d1, d2, d3] => { results := [.lit (.bool false)], args := [d1, d2, d3] }
  | _ => none }
def SpecMayWrongFalsely : Prop := specMayRow.holds Try.pinned (OpenSpec.ofChange specMayWrong)

/-- 'broadsidelaw04.SpecWrites': WHATEVER THE INPUT: true; the input reads as it did. -/
def specWritesSpec : ChangeSpec := { name := "specWrites", fn := fun _ => fun
  | [d1, d2] => { results := [.lit (.bool true)], args := [d1, d2] }
  | _ => none }
def specWritesRow : OpenClaim := { program := "ytlnakhbcefmiaaa", sum := "225bc8c788e00d9720b8121f56f6daccc0f8ac42123742cd3931f524ad3ed575", func := "broadside/broadsidelaw04.SpecWrites", spec := "specWrites", recurses := true, apart := false }
def SpecWritesSaid : Prop := specWritesRow.holds Try.pinned (OpenSpec.ofChange specWritesSpec)

/-- ITS FALSE NEIGHBOUR: 'it returns false'. Refute it at one input. -/
def specWritesWrong : ChangeSpec := { name := "specWrites", fn := fun _ => fun
  | [d1, d2] => { results := [.lit (.bool false)], args := [d1, d2] }
  | _ => none }
def SpecWritesWrongFalsely : Prop := specWritesRow.holds Try.pinned (OpenSpec.ofChange specWritesWrong)

/-- 'broadsidelaw04.SpecBack': WHATEVER THE INPUT: true; the input reads as it did. -/
def specBackSpec : ChangeSpec := { name := "specBack", fn := fun _ => fun
  | [d1, d2] => { results := [.lit (.bool true)], args := [d1, d2] }
  | _ => none }
def specBackRow : OpenClaim := { program := "ytlnakhbcefmiaaa", sum := "225bc8c788e00d9720b8121f56f6daccc0f8ac42123742cd3931f524ad3ed575", func := "broadside/broadsidelaw04.SpecBack", spec := "specBack", apart := false }
def SpecBackSaid : Prop := specBackRow.holds Try.pinned (OpenSpec.ofChange specBackSpec)

/-- ITS FALSE NEIGHBOUR: 'it returns false'. Refute it at one input. -/
def specBackWrong : ChangeSpec := { name := "specBack", fn := fun _ => fun
  | [d1, d2] => { results := [.lit (.bool false)], args := [d1, d2] }
  | _ => none }
def SpecBackWrongFalsely : Prop := specBackRow.holds Try.pinned (OpenSpec.ofChange specBackWrong)

/-- 'broadsidelaw04.SpecBands': WHATEVER THE INPUT: true; the input reads as it did. -/
def specBandsSpec : ChangeSpec := { name := "specBands", fn := fun _ => fun
  | [d1, d2, d3] => { results := [.lit (.bool true)], args := [d1, d2, d3] }
  | _ => none }
def specBandsRow : OpenClaim := { program := "ytlnakhbcefmiaaa", sum := "225bc8c788e00d9720b8121f56f6daccc0f8ac42123742cd3931f524ad3ed575", func := "broadside/broadsidelaw04.SpecBands", spec := "specBands", apart := false }
def SpecBandsSaid : Prop := specBandsRow.holds Try.pinned (OpenSpec.ofChange specBandsSpec)

/-- ITS FALSE NEIGHBOUR: 'it returns false'. Refute it at one input. -/
def specBandsWrong : ChangeSpec := { name := "specBands", fn := fun _ => fun
  | [d1, d2, d3] => { results := [.lit (.bool false)], args := [d1, d2, d3] }
  | _ => none }
def SpecBandsWrongFalsely : Prop := specBandsRow.holds Try.pinned (OpenSpec.ofChange specBandsWrong)

/-- 'broadsidelaw04.SpecMultiples': WHATEVER THE INPUT: true; the input reads as it did. -/
def specMultiplesSpec : ChangeSpec := { name := "specMultiples", fn := fun _ => fun
  | [d1, d2, d3] => { results := [.lit (.bool true)], args := [d1, d2, d3] }
  | _ => none }
def specMultiplesRow : OpenClaim := { program := "ytlnakhbcefmiaaa", sum := "225bc8c788e00d9720b8121f56f6daccc0f8ac42123742cd3931f524ad3ed575", func := "broadside/broadsidelaw04.SpecMultiples", spec := "specMultiples", apart := false }
def SpecMultiplesSaid : Prop := specMultiplesRow.holds Try.pinned (OpenSpec.ofChange specMultiplesSpec)

/-- ITS FALSE NEIGHBOUR: 'it returns false'. Refute it at one input. -/
def specMultiplesWrong : ChangeSpec := { name := "specMultiples", fn := fun _ => fun
  | [d1, d2, d3] => { results := [.lit (.bool false)], args := [d1, d2, d3] }
  | _ => none }
def SpecMultiplesWrongFalsely : Prop := specMultiplesRow.holds Try.pinned (OpenSpec.ofChange specMultiplesWrong)

/- THE SECOND FORM. 'bulk': how many values and letters a reading holds, each counted each time it is reached (what is shared counts as often as it is met; a slice's spare places count too). A statement '..UptoSaid' is the law's where the arguments, and the package variables that the reading takes, are together of bulk at most 1048576: NARROWER than '..Said'. Prove '..Said' where nothing that the law and all that it calls make is longer than what came in: it says more and counts as full. Else prove '..UptoSaid'. A law counts once. -/
mutual
def uptoBulk {H : Type} : DataW H → Nat
  | .lit (.string bytes) => bytes.length + 1
  | .lit _ => 1
  | .nil => 1
  | .ptr d => uptoBulk d + 1
  | .slice elems spare => uptoBulkAll elems + uptoBulkAll spare + 1
  | .agg parts => uptoBulkAll parts + 1
  | .iface _ d => uptoBulk d + 1
  | .map entries => uptoBulkEntries entries + 1
  | .held _ => 1
def uptoBulkAll {H : Type} : List (DataW H) → Nat
  | [] => 0
  | d :: r => uptoBulk d + uptoBulkAll r
def uptoBulkEntries {H : Type} : List (Lit × DataW H) → Nat
  | [] => 0
  | x :: r => uptoBulkEntry x + uptoBulkEntries r
def uptoBulkEntry {H : Type} : Lit × DataW H → Nat
  | (.string bytes, d) => bytes.length + uptoBulk d + 1
  | (_, d) => uptoBulk d + 1
 end
def uptoSmall : (H : Type) → List (DataW H) → Bool := fun _ ds => decide (uptoBulkAll ds ≤ 1048576)
def OpenSpec.upto (s : _root_.Go.ChangeSpec) : _root_.Go.OpenSpec := { _root_.Go.OpenSpec.ofChange s with cond := some uptoSmall }

/-- 'broadsidelaw04.SpecMay', WHERE WHAT IT READS IS OF BULK AT MOST 1048576: true; the input reads as it did. -/
def specMayUptoRow : OpenClaim := { program := "ytlnakhbcefmiaaa", sum := "225bc8c788e00d9720b8121f56f6daccc0f8ac42123742cd3931f524ad3ed575", func := "broadside/broadsidelaw04.SpecMay", spec := "specMay", apart := false, narrowed := true }
def SpecMayUptoSaid : Prop := specMayUptoRow.holds Try.pinned (OpenSpec.upto specMaySpec)

/-- 'broadsidelaw04.SpecWrites', WHERE WHAT IT READS IS OF BULK AT MOST 1048576: true; the input reads as it did. -/
def specWritesUptoRow : OpenClaim := { program := "ytlnakhbcefmiaaa", sum := "225bc8c788e00d9720b8121f56f6daccc0f8ac42123742cd3931f524ad3ed575", func := "broadside/broadsidelaw04.SpecWrites", spec := "specWrites", recurses := true, apart := false, narrowed := true }
def SpecWritesUptoSaid : Prop := specWritesUptoRow.holds Try.pinned (OpenSpec.upto specWritesSpec)

/-- 'broadsidelaw04.SpecBack', WHERE WHAT IT READS IS OF BULK AT MOST 1048576: true; the input reads as it did. -/
def specBackUptoRow : OpenClaim := { program := "ytlnakhbcefmiaaa", sum := "225bc8c788e00d9720b8121f56f6daccc0f8ac42123742cd3931f524ad3ed575", func := "broadside/broadsidelaw04.SpecBack", spec := "specBack", apart := false, narrowed := true }
def SpecBackUptoSaid : Prop := specBackUptoRow.holds Try.pinned (OpenSpec.upto specBackSpec)

/-- 'broadsidelaw04.SpecBands', WHERE WHAT IT READS IS OF BULK AT MOST 1048576: true; the input reads as it did. -/
def specBandsUptoRow : OpenClaim := { program := "ytlnakhbcefmiaaa", sum := "225bc8c788e00d9720b8121f56f6daccc0f8ac42123742cd3931f524ad3ed575", func := "broadside/broadsidelaw04.SpecBands", spec := "specBands", apart := false, narrowed := true }
def SpecBandsUptoSaid : Prop := specBandsUptoRow.holds Try.pinned (OpenSpec.upto specBandsSpec)

/-- 'broadsidelaw04.SpecMultiples', WHERE WHAT IT READS IS OF BULK AT MOST 1048576: true; the input reads as it did. -/
def specMultiplesUptoRow : OpenClaim := { program := "ytlnakhbcefmiaaa", sum := "225bc8c788e00d9720b8121f56f6daccc0f8ac42123742cd3931f524ad3ed575", func := "broadside/broadsidelaw04.SpecMultiples", spec := "specMultiples", apart := false, narrowed := true }
def SpecMultiplesUptoSaid : Prop := specMultiplesUptoRow.holds Try.pinned (OpenSpec.upto specMultiplesSpec)

end Rows
end Go.Proofs.Ytlnakhbcefmiaaa
