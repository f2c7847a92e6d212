/-
  No cell of these rows narrows 'for every input' (looked for: loops, veiled, ifaces, maps, wideKeys, modest, calm, conditions, laid).
  DERIVED. THE GIVEN ROWS OF THIS SEAT. 6 by the template 'for every input the law returns true; each argument reads behind the call as it read before'; 0 by the template 'total and deterministic' (their statements: YtgihmkdmcpcbeaaTotals.lean).
  GIVEN WITH THE SEED: the statements are not yours to turn. If you find one false, say at which input.
  Laid BY PROGRAM, IN A SANDBOX (cutbox-rows.mjs): the forced cells as the released guide's own fill.sh prints them over the translation a0fc419ab4654f89… (all of the seat's roots in one cut). By AI agents, Wed Nov 11 2026. No macro, syntax, notation, axiom, sorry.
-/
import Derived.Test.YtgihmkdmcpcbeaaChecked
import GoSem.Claim
import GoSem.ClaimJoined
import GoSem.ClaimMapViews
import Derived.JoinedTies
import Derived.KernelRfl
namespace Go.Proofs.Ytgihmkdmcpcbeaa
/- THE CELL 'sum', in the pinned program and in every row, IS THE sha256 OF THE DUMP (.gsa) THAT YtgihmkdmcpcbeaaProg.lean LOADS. Nothing in Lean hashes anything: it is a label: what it is worth is what the hold of that sum in a sandbox is worth. -/
noncomputable def Try.pinned : Pinned := { name := "ytgihmkdmcpcbeaa", sum := "a0fc419ab4654f89d95958fbf049760a1f66f079dc0043913dcfa8f6a43bb747", checked := Try.checked }
namespace Rows
def none {H : Type} : Left H := { results := [], args := [] }

/-- 'broadsidelaw10.ScanScans': WHATEVER THE INPUT: true; the input reads as it did. -/
def scanScansSpec : ChangeSpec := { name := "scanScans", fn := fun _ => fun
  | [d1, d2] => { results := [.lit (.bool true)], args := [d1, d2] }
  | _ => none }
def scanScansRow : OpenClaim := { program := "ytgihmkdmcpcbeaa", sum := "a0fc419ab4654f89d95958fbf049760a1f66f079dc0043913dcfa8f6a43bb747", func := "broadside/broadsidelaw10.ScanScans", spec := "scanScans", unfollowed := true, recurses := true, apart := false }
def ScanScansSaid : Prop := scanScansRow.holds Try.pinned (OpenSpec.ofChange scanScansSpec)

/-- ITS FALSE NEIGHBOUR: 'it returns false'. Refute it at one input. -/
def scanScansWrong : ChangeSpec := { name := "scanScans", fn := fun _ => fun
  | [d1, d2] => { results := [.lit (.bool false)], args := [d1, d2] }
  | _ => none }
def ScanScansWrongFalsely : Prop := scanScansRow.holds Try.pinned (OpenSpec.ofChange scanScansWrong)

/-- 'broadsidelaw10.ScanMargins': WHATEVER THE INPUT: true; the input reads as it did. -/
def scanMarginsSpec : ChangeSpec := { name := "scanMargins", fn := fun _ => fun
  | [d] => { results := [.lit (.bool true)], args := [d] }
  | _ => none }
def scanMarginsRow : OpenClaim := { program := "ytgihmkdmcpcbeaa", sum := "a0fc419ab4654f89d95958fbf049760a1f66f079dc0043913dcfa8f6a43bb747", func := "broadside/broadsidelaw10.ScanMargins", spec := "scanMargins", unfollowed := true, recurses := true, apart := false }
def ScanMarginsSaid : Prop := scanMarginsRow.holds Try.pinned (OpenSpec.ofChange scanMarginsSpec)

/-- ITS FALSE NEIGHBOUR: 'it returns false'. Refute it at one input. -/
def scanMarginsWrong : ChangeSpec := { name := "scanMargins", fn := fun _ => fun
  | [d] => { results := [.lit (.bool false)], args := [d] }
  | _ => none }
def ScanMarginsWrongFalsely : Prop := scanMarginsRow.holds Try.pinned (OpenSpec.ofChange scanMarginsWrong)

/-- 'broadsidelaw10.ScanGrows': WHATEVER THE INPUT: true; the input reads as it did. -/
def scanGrowsSpec : ChangeSpec := { name := "scanGrows", fn := fun _ => fun
  | [d1, d2, d3] => { results := [.lit (.bool true)], args := [d1, d2, d3] }
  | _ => none }
def scanGrowsRow : OpenClaim := { program := "ytgihmkdmcpcbeaa", sum := "a0fc419ab4654f89d95958fbf049760a1f66f079dc0043913dcfa8f6a43bb747", func := "broadside/broadsidelaw10.ScanGrows", spec := "scanGrows", unfollowed := true, recurses := true, apart := false }
def ScanGrowsSaid : Prop := scanGrowsRow.holds Try.pinned (OpenSpec.ofChange scanGrowsSpec)

/-- ITS FALSE NEIGHBOUR: 'it returns false'. Refute it at one input. -/
def scanGrowsWrong : ChangeSpec := { name := "scanGrows", fn := fun _ => fun
  | [d1, d2, d3] => { results := [.lit (.bool false)], args := [d1, d2, d3] }
  | _ => none }
def ScanGrowsWrongFalsely : Prop := scanGrowsRow.holds Try.pinned (OpenSpec.ofChange scanGrowsWrong)

/-- 'broadsidelaw10.ScanSums': WHATEVER THE INPUT: true; the input reads as it did. -/
def scanSumsSpec : ChangeSpec := { name := "scanSums", fn := fun _ => fun
  | [d1, d2] => { results := [.lit (.bool true)], args := [d1, d2] }
  | _ => none }
def scanSumsRow : OpenClaim := { program := "ytgihmkdmcpcbeaa", sum := "a0fc419ab4654f89d95958fbf049760a1f66f079dc0043913dcfa8f6a43bb747", func := "broadside/broadsidelaw10.ScanSums", spec := "scanSums", unfollowed := true, recurses := true, apart := false }
def ScanSumsSaid : Prop := scanSumsRow.holds Try.pinned (OpenSpec.ofChange scanSumsSpec)

/-- ITS FALSE NEIGHBOUR: 'it returns false'. Refute it at one input. -/
def scanSumsWrong : ChangeSpec := { name := "scanSums", fn := fun _ => fun
  | [d1, d2] => { results := [.lit (.bool false)], args := [d1, d2] }
  | _ => none }
def ScanSumsWrongFalsely : Prop := scanSumsRow.holds Try.pinned (OpenSpec.ofChange scanSumsWrong)

/-- 'broadsidelaw10.ScanTurned': WHATEVER THE INPUT: true; the input reads as it did. -/
def scanTurnedSpec : ChangeSpec := { name := "scanTurned", fn := fun _ => fun
  | [d] => { results := [.lit (.bool true)], args := [d] }
  | _ => none }
def scanTurnedRow : OpenClaim := { program := "ytgihmkdmcpcbeaa", sum := "a0fc419ab4654f89d95958fbf049760a1f66f079dc0043913dcfa8f6a43bb747", func := "broadside/broadsidelaw10.ScanTurned", spec := "scanTurned", unfollowed := true, recurses := true, apart := false }
def ScanTurnedSaid : Prop := scanTurnedRow.holds Try.pinned (OpenSpec.ofChange scanTurnedSpec)

/-- ITS FALSE NEIGHBOUR: 'it returns false'. Refute it at one input. -/
def scanTurnedWrong : ChangeSpec := { name := "scanTurned", fn := fun _ => fun
  | [d] => { results := [.lit (.bool false)], args := [d] }
  | _ => none }
def ScanTurnedWrongFalsely : Prop := scanTurnedRow.holds Try.pinned (OpenSpec.ofChange scanTurnedWrong)

/-- 'broadsidelaw10.ScanRoutes': WHATEVER THE INPUT: true; the input reads as it did. -/
def scanRoutesSpec : ChangeSpec := { name := "scanRoutes", fn := fun _ => fun
  | [d1, d2] => { results := [.lit (.bool true)], args := [d1, d2] }
  | _ => none }
def scanRoutesRow : OpenClaim := { program := "ytgihmkdmcpcbeaa", sum := "a0fc419ab4654f89d95958fbf049760a1f66f079dc0043913dcfa8f6a43bb747", func := "broadside/broadsidelaw10.ScanRoutes", spec := "scanRoutes", unfollowed := true, recurses := true, apart := false }
def ScanRoutesSaid : Prop := scanRoutesRow.holds Try.pinned (OpenSpec.ofChange scanRoutesSpec)

/-- ITS FALSE NEIGHBOUR: 'it returns false'. Refute it at one input. -/
def scanRoutesWrong : ChangeSpec := { name := "scanRoutes", fn := fun _ => fun
  | [d1, d2] => { results := [.lit (.bool false)], args := [d1, d2] }
  | _ => none }
def ScanRoutesWrongFalsely : Prop := scanRoutesRow.holds Try.pinned (OpenSpec.ofChange scanRoutesWrong)

/- THE SECOND FORM. 'bulk': how many values and letters a reading holds, each counted each time it is reached (what is shared counts as often as it is met; a slice's spare places count too). A statement '..UptoSaid' is the law's where the arguments, and the package variables that the reading takes, are together of bulk at most 1048576: NARROWER than '..Said'. Prove '..Said' where nothing that the law and all that it calls make is longer than what came in: it says more and counts as full. Else prove '..UptoSaid'. A law counts once. -/
mutual
def uptoBulk {H : Type} : DataW H → Nat
  | .lit (.string bytes) => bytes.length + 1
  | .lit _ => 1
  | .nil => 1
  | .ptr d => uptoBulk d + 1
  | .slice elems spare => uptoBulkAll elems + uptoBulkAll spare + 1
  | .agg parts => uptoBulkAll parts + 1
  | .iface _ d => uptoBulk d + 1
  | .map entries => uptoBulkEntries entries + 1
  | .held _ => 1
def uptoBulkAll {H : Type} : List (DataW H) → Nat
  | [] => 0
  | d :: r => uptoBulk d + uptoBulkAll r
def uptoBulkEntries {H : Type} : List (Lit × DataW H) → Nat
  | [] => 0
  | x :: r => uptoBulkEntry x + uptoBulkEntries r
def uptoBulkEntry {H : Type} : Lit × DataW H → Nat
  | (.string bytes, d) => bytes.length + uptoBulk d + 1
  | (_, d) => uptoBulk d + 1
 end
def uptoSmall : (H : Type) → List (DataW H) → Bool := fun _ ds => decide (uptoBulkAll ds ≤ 1048576)
def OpenSpec.upto (s : _root_.Go.ChangeSpec) : _root_.Go.OpenSpec := { _root_.Go.OpenSpec.ofChange s with cond := some uptoSmall }

/-- 'broadsidelaw10.ScanScans', WHERE WHAT IT READS IS OF BULK AT MOST 1048576: true; the input reads as it did. -/
def scanScansUptoRow : OpenClaim := { program := "ytgihmkdmcpcbeaa", sum := "a0fc419ab4654f89d95958fbf049760a1f66f079dc0043913dcfa8f6a43bb747", func := "broadside/broadsidelaw10.ScanScans", spec := "scanScans", unfollowed := true, recurses := true, apart := false, narrowed := true }
def ScanScansUptoSaid : Prop := scanScansUptoRow.holds Try.pinned (OpenSpec.upto scanScansSpec)

/-- 'broadsidelaw10.ScanMargins', WHERE WHAT IT READS IS OF BULK AT MOST 1048576: true; the input reads as it did. -/
def scanMarginsUptoRow : OpenClaim := { program := "ytgihmkdmcpcbeaa", sum := "a0fc419ab4654f89d95958fbf049760a1f66f079dc0043913dcfa8f6a43bb747", func := "broadside/broadsidelaw10.ScanMargins", spec := "scanMargins", unfollowed := true, recurses := true, apart := false, narrowed := true }
def ScanMarginsUptoSaid : Prop := scanMarginsUptoRow.holds Try.pinned (OpenSpec.upto scanMarginsSpec)

/-- 'broadsidelaw10.ScanGrows', WHERE WHAT IT READS IS OF BULK AT MOST 1048576: true; the input reads as it did. -/
def scanGrowsUptoRow : OpenClaim := { program := "ytgihmkdmcpcbeaa", sum := "a0fc419ab4654f89d95958fbf049760a1f66f079dc0043913dcfa8f6a43bb747", func := "broadside/broadsidelaw10.ScanGrows", spec := "scanGrows", unfollowed := true, recurses := true, apart := false, narrowed := true }
def ScanGrowsUptoSaid : Prop := scanGrowsUptoRow.holds Try.pinned (OpenSpec.upto scanGrowsSpec)

/-- 'broadsidelaw10.ScanSums', WHERE WHAT IT READS IS OF BULK AT MOST 1048576: true; the input reads as it did. -/
def scanSumsUptoRow : OpenClaim := { program := "ytgihmkdmcpcbeaa", sum := "a0fc419ab4654f89d95958fbf049760a1f66f079dc0043913dcfa8f6a43bb747", func := "broadside/broadsidelaw10.ScanSums", spec := "scanSums", unfollowed := true, recurses := true, apart := false, narrowed := true }
def ScanSumsUptoSaid : Prop := scanSumsUptoRow.holds Try.pinned (OpenSpec.upto scanSumsSpec)

/-- 'broadsidelaw10.ScanTurned', WHERE WHAT IT READS IS OF BULK AT MOST 1048576: true; the input reads as it did. -/
def scanTurnedUptoRow : OpenClaim := { program := "ytgihmkdmcpcbeaa", sum := "a0fc419ab4654f89d95958fbf049760a1f66f079dc0043913dcfa8f6a43bb747", func := "broadside/broadsidelaw10.ScanTurned", spec := "scanTurned", unfollowed := true, recurses := true, apart := false, narrowed := true }
def ScanTurnedUptoSaid : Prop := scanTurnedUptoRow.holds Try.pinned (OpenSpec.upto scanTurnedSpec)

/-- 'broadsidelaw10.ScanRoutes', WHERE WHAT IT READS IS OF BULK AT MOST 1048576: true; the input reads as it did. -/
def scanRoutesUptoRow : OpenClaim := { program := "ytgihmkdmcpcbeaa", sum := "a0fc419ab4654f89d95958fbf049760a1f66f079dc0043913dcfa8f6a43bb747", func := "broadside/broadsidelaw10.ScanRoutes", spec := "scanRoutes", unfollowed := true, recurses := true, apart := false, narrowed := true }
def ScanRoutesUptoSaid : Prop := scanRoutesUptoRow.holds Try.pinned (OpenSpec.upto scanRoutesSpec)

end Rows
end Go.Proofs.Ytgihmkdmcpcbeaa
