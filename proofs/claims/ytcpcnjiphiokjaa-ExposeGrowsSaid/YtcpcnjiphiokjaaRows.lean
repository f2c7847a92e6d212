/-
  No cell of these rows narrows 'for every input' (looked for: loops, veiled, ifaces, maps, wideKeys, modest, calm, conditions, laid).
  DERIVED. THE GIVEN ROWS OF THIS SEAT. 5 by the template 'for every input the law returns true; each argument reads behind the call as it read before'; 0 by the template 'total and deterministic' (their statements: YtcpcnjiphiokjaaTotals.lean).
  GIVEN WITH THE SEED: the statements are not yours to turn. If you find one false, say at which input.
  Laid BY PROGRAM, IN A SANDBOX (cutbox-rows.mjs): the forced cells as the released guide's own fill.sh prints them over the translation 09a2c1c8ebcdc041… (all of the seat's roots in one cut). By AI agents, Wed Nov 11 2026. No macro, syntax, notation, axiom, sorry.
-/
import Derived.Test.YtcpcnjiphiokjaaChecked
import GoSem.Claim
import GoSem.ClaimJoined
import GoSem.ClaimMapViews
import Derived.JoinedTies
import Derived.KernelRfl
namespace Go.Proofs.Ytcpcnjiphiokjaa
/- THE CELL 'sum', in the pinned program and in every row, IS THE sha256 OF THE DUMP (.gsa) THAT YtcpcnjiphiokjaaProg.lean LOADS. Nothing in Lean hashes anything: it is a label: what it is worth is what the hold of that sum in a sandbox is worth. -/
noncomputable def Try.pinned : Pinned := { name := "ytcpcnjiphiokjaa", sum := "09a2c1c8ebcdc0412e7f992cc99ba3ba61edf299de006a5aed371f9d43eebea0", checked := Try.checked }
namespace Rows
def none {H : Type} : Left H := { results := [], args := [] }

/-- 'broadsidelaw11.ExposeNeeds': WHATEVER THE INPUT: true; the input reads as it did. -/
def exposeNeedsSpec : ChangeSpec := { name := "exposeNeeds", fn := fun _ => fun
  | [d] => { results := [.lit (.bool true)], args := [d] }
  | _ => none }
def exposeNeedsRow : OpenClaim := { program := "ytcpcnjiphiokjaa", sum := "09a2c1c8ebcdc0412e7f992cc99ba3ba61edf299de006a5aed371f9d43eebea0", func := "broadside/broadsidelaw11.ExposeNeeds", spec := "exposeNeeds", inPlace := ["math/bits.Add64"], unfollowed := true, recurses := true, apart := false }
def ExposeNeedsSaid : Prop := exposeNeedsRow.holds Try.pinned (OpenSpec.ofChange exposeNeedsSpec)

/-- ITS FALSE NEIGHBOUR: 'it returns false'. Refute it at one input. -/
def exposeNeedsWrong : ChangeSpec := { name := "exposeNeeds", fn := fun _ => fun
  | [d] => { results := [.lit (.bool false)], args := [d] }
  | _ => none }
def ExposeNeedsWrongFalsely : Prop := exposeNeedsRow.holds Try.pinned (OpenSpec.ofChange exposeNeedsWrong)

/-- 'broadsidelaw11.ExposeTotals': WHATEVER THE INPUT: true; the input reads as it did. -/
def exposeTotalsSpec : ChangeSpec := { name := "exposeTotals", fn := fun _ => fun
  | [d] => { results := [.lit (.bool true)], args := [d] }
  | _ => none }
def exposeTotalsRow : OpenClaim := { program := "ytcpcnjiphiokjaa", sum := "09a2c1c8ebcdc0412e7f992cc99ba3ba61edf299de006a5aed371f9d43eebea0", func := "broadside/broadsidelaw11.ExposeTotals", spec := "exposeTotals", inPlace := ["math/bits.Add64"], unfollowed := true, recurses := true, apart := false }
def ExposeTotalsSaid : Prop := exposeTotalsRow.holds Try.pinned (OpenSpec.ofChange exposeTotalsSpec)

/-- ITS FALSE NEIGHBOUR: 'it returns false'. Refute it at one input. -/
def exposeTotalsWrong : ChangeSpec := { name := "exposeTotals", fn := fun _ => fun
  | [d] => { results := [.lit (.bool false)], args := [d] }
  | _ => none }
def ExposeTotalsWrongFalsely : Prop := exposeTotalsRow.holds Try.pinned (OpenSpec.ofChange exposeTotalsWrong)

/-- 'broadsidelaw11.ExposeGrows': WHATEVER THE INPUT: true; the input reads as it did. -/
def exposeGrowsSpec : ChangeSpec := { name := "exposeGrows", fn := fun _ => fun
  | [d1, d2, d3] => { results := [.lit (.bool true)], args := [d1, d2, d3] }
  | _ => none }
def exposeGrowsRow : OpenClaim := { program := "ytcpcnjiphiokjaa", sum := "09a2c1c8ebcdc0412e7f992cc99ba3ba61edf299de006a5aed371f9d43eebea0", func := "broadside/broadsidelaw11.ExposeGrows", spec := "exposeGrows", inPlace := ["math/bits.Add64"], unfollowed := true, recurses := true, apart := false }
def ExposeGrowsSaid : Prop := exposeGrowsRow.holds Try.pinned (OpenSpec.ofChange exposeGrowsSpec)

/-- ITS FALSE NEIGHBOUR: 'it returns false'. Refute it at one input. -/
def exposeGrowsWrong : ChangeSpec := { name := "exposeGrows", fn := fun _ => fun
  | [d1, d2, d3] => { results := [.lit (.bool false)], args := [d1, d2, d3] }
  | _ => none }
def ExposeGrowsWrongFalsely : Prop := exposeGrowsRow.holds Try.pinned (OpenSpec.ofChange exposeGrowsWrong)

/-- 'broadsidelaw11.ExposeCovers': WHATEVER THE INPUT: true; the input reads as it did. -/
def exposeCoversSpec : ChangeSpec := { name := "exposeCovers", fn := fun _ => fun
  | [d1, d2] => { results := [.lit (.bool true)], args := [d1, d2] }
  | _ => none }
def exposeCoversRow : OpenClaim := { program := "ytcpcnjiphiokjaa", sum := "09a2c1c8ebcdc0412e7f992cc99ba3ba61edf299de006a5aed371f9d43eebea0", func := "broadside/broadsidelaw11.ExposeCovers", spec := "exposeCovers", inPlace := ["math/bits.Add64"], unfollowed := true, recurses := true, apart := false }
def ExposeCoversSaid : Prop := exposeCoversRow.holds Try.pinned (OpenSpec.ofChange exposeCoversSpec)

/-- ITS FALSE NEIGHBOUR: 'it returns false'. Refute it at one input. -/
def exposeCoversWrong : ChangeSpec := { name := "exposeCovers", fn := fun _ => fun
  | [d1, d2] => { results := [.lit (.bool false)], args := [d1, d2] }
  | _ => none }
def ExposeCoversWrongFalsely : Prop := exposeCoversRow.holds Try.pinned (OpenSpec.ofChange exposeCoversWrong)

/-- 'broadsidelaw11.ExposeApart': WHATEVER THE INPUT: true; the input reads as it did. -/
def exposeApartSpec : ChangeSpec := { name := "exposeApart", fn := fun _ => fun
  | [d] => { results := [.lit (.bool true)], args := [d] }
  | _ => none }
def exposeApartRow : OpenClaim := { program := "ytcpcnjiphiokjaa", sum := "09a2c1c8ebcdc0412e7f992cc99ba3ba61edf299de006a5aed371f9d43eebea0", func := "broadside/broadsidelaw11.ExposeApart", spec := "exposeApart", inPlace := ["math/bits.Add64"], unfollowed := true, recurses := true, apart := false }
def ExposeApartSaid : Prop := exposeApartRow.holds Try.pinned (OpenSpec.ofChange exposeApartSpec)

/-- ITS FALSE NEIGHBOUR: 'it returns false'. Refute it at one input. -/
def exposeApartWrong : ChangeSpec := { name := "exposeApart", fn := fun _ => fun
  | [d] => { results := [.lit (.bool false)], args := [d] }
  | _ => none }
def ExposeApartWrongFalsely : Prop := exposeApartRow.holds Try.pinned (OpenSpec.ofChange exposeApartWrong)

/- THE SECOND FORM. 'bulk': how many values and letters a reading holds, each counted each time it is reached (what is shared counts as often as it is met; a slice's spare places count too). A statement '..UptoSaid' is the law's where the arguments, and the package variables that the reading takes, are together of bulk at most 1048576: NARROWER than '..Said'. Prove '..Said' where nothing that the law and all that it calls make is longer than what came in: it says more and counts as full. Else prove '..UptoSaid'. A law counts once. -/
mutual
def uptoBulk {H : Type} : DataW H → Nat
  | .lit (.string bytes) => bytes.length + 1
  | .lit _ => 1
  | .nil => 1
  | .ptr d => uptoBulk d + 1
  | .slice elems spare => uptoBulkAll elems + uptoBulkAll spare + 1
  | .agg parts => uptoBulkAll parts + 1
  | .iface _ d => uptoBulk d + 1
  | .map entries => uptoBulkEntries entries + 1
  | .held _ => 1
def uptoBulkAll {H : Type} : List (DataW H) → Nat
  | [] => 0
  | d :: r => uptoBulk d + uptoBulkAll r
def uptoBulkEntries {H : Type} : List (Lit × DataW H) → Nat
  | [] => 0
  | x :: r => uptoBulkEntry x + uptoBulkEntries r
def uptoBulkEntry {H : Type} : Lit × DataW H → Nat
  | (.string bytes, d) => bytes.length + uptoBulk d + 1
  | (_, d) => uptoBulk d + 1
 end
def uptoSmall : (H : Type) → List (DataW H) → Bool := fun _ ds => decide (uptoBulkAll ds ≤ 1048576)
def OpenSpec.upto (s : _root_.Go.ChangeSpec) : _root_.Go.OpenSpec := { _root_.Go.OpenSpec.ofChange s with cond := some uptoSmall }

/-- 'broadsidelaw11.ExposeNeeds', WHERE WHAT IT READS IS OF BULK AT MOST 1048576: true; the input reads as it did. -/
def exposeNeedsUptoRow : OpenClaim := { program := "ytcpcnjiphiokjaa", sum := "09a2c1c8ebcdc0412e7f992cc99ba3ba61edf299de006a5aed371f9d43eebea0", func := "broadside/broadsidelaw11.ExposeNeeds", spec := "exposeNeeds", inPlace := ["math/bits.Add64"], unfollowed := true, recurses := true, apart := false, narrowed := true }
def ExposeNeedsUptoSaid : Prop := exposeNeedsUptoRow.holds Try.pinned (OpenSpec.upto exposeNeedsSpec)

/-- 'broadsidelaw11.ExposeTotals', WHERE WHAT IT READS IS OF BULK AT MOST 1048576: true; the input reads as it did. -/
def exposeTotalsUptoRow : OpenClaim := { program := "ytcpcnjiphiokjaa", sum := "09a2c1c8ebcdc0412e7f992cc99ba3ba61edf299de006a5aed371f9d43eebea0", func := "broadside/broadsidelaw11.ExposeTotals", spec := "exposeTotals", inPlace := ["math/bits.Add64"], unfollowed := true, recurses := true, apart := false, narrowed := true }
def ExposeTotalsUptoSaid : Prop := exposeTotalsUptoRow.holds Try.pinned (OpenSpec.upto exposeTotalsSpec)

/-- 'broadsidelaw11.ExposeGrows', WHERE WHAT IT READS IS OF BULK AT MOST 1048576: true; the input reads as it did. -/
def exposeGrowsUptoRow : OpenClaim := { program := "ytcpcnjiphiokjaa", sum := "09a2c1c8ebcdc0412e7f992cc99ba3ba61edf299de006a5aed371f9d43eebea0", func := "broadside/broadsidelaw11.ExposeGrows", spec := "exposeGrows", inPlace := ["math/bits.Add64"], unfollowed := true, recurses := true, apart := false, narrowed := true }
def ExposeGrowsUptoSaid : Prop := exposeGrowsUptoRow.holds Try.pinned (OpenSpec.upto exposeGrowsSpec)

/-- 'broadsidelaw11.ExposeCovers', WHERE WHAT IT READS IS OF BULK AT MOST 1048576: true; the input reads as it did. -/
def exposeCoversUptoRow : OpenClaim := { program := "ytcpcnjiphiokjaa", sum := "09a2c1c8ebcdc0412e7f992cc99ba3ba61edf299de006a5aed371f9d43eebea0", func := "broadside/broadsidelaw11.ExposeCovers", spec := "exposeCovers", inPlace := ["math/bits.Add64"], unfollowed := true, recurses := true, apart := false, narrowed := true }
def ExposeCoversUptoSaid : Prop := exposeCoversUptoRow.holds Try.pinned (OpenSpec.upto exposeCoversSpec)

/-- 'broadsidelaw11.ExposeApart', WHERE WHAT IT READS IS OF BULK AT MOST 1048576: true; the input reads as it did. -/
def exposeApartUptoRow : OpenClaim := { program := "ytcpcnjiphiokjaa", sum := "09a2c1c8ebcdc0412e7f992cc99ba3ba61edf299de006a5aed371f9d43eebea0", func := "broadside/broadsidelaw11.ExposeApart", spec := "exposeApart", inPlace := ["math/bits.Add64"], unfollowed := true, recurses := true, apart := false, narrowed := true }
def ExposeApartUptoSaid : Prop := exposeApartUptoRow.holds Try.pinned (OpenSpec.upto exposeApartSpec)

end Rows
end Go.Proofs.Ytcpcnjiphiokjaa
