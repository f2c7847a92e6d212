/-
  No cell of these rows narrows 'for every input' (looked for: loops, veiled, ifaces, maps, wideKeys, modest, calm, conditions, laid).
  DERIVED. THE GIVEN ROWS OF THIS SEAT. 4 by the template 'for every input the law returns true; each argument reads behind the call as it read before'; 0 by the template 'total and deterministic' (their statements: YtpfhkmppbochnaaTotals.lean).
  GIVEN WITH THE SEED: the statements are not yours to turn. If you find one false, say at which input.
  Laid BY PROGRAM, IN A SANDBOX (cutbox-rows.mjs): the forced cells as the released guide's own fill.sh prints them over the translation c2e3085cffee9418… (all of the seat's roots in one cut). By AI agents, Wed Nov 11 2026. No macro, syntax, notation, axiom, sorry.
-/
import Derived.Test.YtpfhkmppbochnaaChecked
import GoSem.Claim
import GoSem.ClaimJoined
import GoSem.ClaimMapViews
import Derived.JoinedTies
import Derived.KernelRfl
namespace Go.Proofs.Ytpfhkmppbochnaa
/- THE CELL 'sum', in the pinned program and in every row, IS THE sha256 OF THE DUMP (.gsa) THAT YtpfhkmppbochnaaProg.lean LOADS. Nothing in Lean hashes anything: it is a label: what it is worth is what the hold of that sum in a sandbox is worth. -/
noncomputable def Try.pinned : Pinned := { name := "ytpfhkmppbochnaa", sum := "c2e3085cffee9418604db9b889a2148d99fa7c37de59323e6fd1c9d4bff02d10", checked := Try.checked }
namespace Rows
def none {H : Type} : Left H := { results := [], args := [] }

/-- 'broadsidelaw14.TearupParts': WHATEVER THE INPUT: true; the input reads as it did. -/
def tearupPartsSpec : ChangeSpec := { name := "tearupParts", fn := fun _ => fun
  | [d1, d2] => { results := [.lit (.bool true)], args := [d1, d2] }
  | _ => none }
def tearupPartsRow : OpenClaim := { program := "ytpfhkmppbochnaa", sum := "c2e3085cffee9418604db9b889a2148d99fa7c37de59323e6fd1c9d4bff02d10", func := "broadside/broadsidelaw14.TearupParts", spec := "tearupParts", inPlace := ["math/bits.Add64"], unfollowed := true, recurses := true, named := ["math/bits.divideError", "math/bits.overflowError"], apart := false }
def TearupPartsSaid : Prop := tearupPartsRow.holds Try.pinned (OpenSpec.ofChange tearupPartsSpec)

/-- ITS FALSE NEIGHBOUR: 'it returns false'. Refute it at one input. -/
def tearupPartsWrong : ChangeSpec := { name := "tearupParts", fn := fun _ => fun
  | [d1, d2] => { results := [.lit (.bool false)], args := [d1, d2] }
  | _ => none }
def TearupPartsWrongFalsely : Prop := tearupPartsRow.holds Try.pinned (OpenSpec.ofChange tearupPartsWrong)

/-- 'broadsidelaw14.TearupWhole': WHATEVER THE INPUT: true; the input reads as it did. -/
def tearupWholeSpec : ChangeSpec := { name := "tearupWhole", fn := fun _ => fun
  | [d1, d2] => { results := [.lit (.bool true)], args := [d1, d2] }
  | _ => none }
def tearupWholeRow : OpenClaim := { program := "ytpfhkmppbochnaa", sum := "c2e3085cffee9418604db9b889a2148d99fa7c37de59323e6fd1c9d4bff02d10", func := "broadside/broadsidelaw14.TearupWhole", spec := "tearupWhole", inPlace := ["math/bits.Add64"], unfollowed := true, recurses := true, named := ["math/bits.divideError", "math/bits.overflowError"], apart := false }
def TearupWholeSaid : Prop := tearupWholeRow.holds Try.pinned (OpenSpec.ofChange tearupWholeSpec)

/-- ITS FALSE NEIGHBOUR: 'it returns false'. Refute it at one input. -/
def tearupWholeWrong : ChangeSpec := { name := "tearupWhole", fn := fun _ => fun
  | [d1, d2] => { results := [.lit (.bool false)], args := [d1, d2] }
  | _ => none }
def TearupWholeWrongFalsely : Prop := tearupWholeRow.holds Try.pinned (OpenSpec.ofChange tearupWholeWrong)

/-- 'broadsidelaw14.TearupTurned': WHATEVER THE INPUT: true; the input reads as it did. -/
def tearupTurnedSpec : ChangeSpec := { name := "tearupTurned", fn := fun _ => fun
  | [d1, d2] => { results := [.lit (.bool true)], args := [d1, d2] }
  | _ => none }
def tearupTurnedRow : OpenClaim := { program := "ytpfhkmppbochnaa", sum := "c2e3085cffee9418604db9b889a2148d99fa7c37de59323e6fd1c9d4bff02d10", func := "broadside/broadsidelaw14.TearupTurned", spec := "tearupTurned", inPlace := ["math/bits.Add64"], unfollowed := true, recurses := true, named := ["math/bits.divideError", "math/bits.overflowError"], apart := false }
def TearupTurnedSaid : Prop := tearupTurnedRow.holds Try.pinned (OpenSpec.ofChange tearupTurnedSpec)

/-- ITS FALSE NEIGHBOUR: 'it returns false'. Refute it at one input. -/
def tearupTurnedWrong : ChangeSpec := { name := "tearupTurned", fn := fun _ => fun
  | [d1, d2] => { results := [.lit (.bool false)], args := [d1, d2] }
  | _ => none }
def TearupTurnedWrongFalsely : Prop := tearupTurnedRow.holds Try.pinned (OpenSpec.ofChange tearupTurnedWrong)

/-- 'broadsidelaw14.TearupAll': WHATEVER THE INPUT: true; the input reads as it did. -/
def tearupAllSpec : ChangeSpec := { name := "tearupAll", fn := fun _ => fun
  | [d1, d2] => { results := [.lit (.bool true)], args := [d1, d2] }
  | _ => none }
def tearupAllRow : OpenClaim := { program := "ytpfhkmppbochnaa", sum := "c2e3085cffee9418604db9b889a2148d99fa7c37de59323e6fd1c9d4bff02d10", func := "broadside/broadsidelaw14.TearupAll", spec := "tearupAll", inPlace := ["math/bits.Add64"], unfollowed := true, recurses := true, named := ["math/bits.divideError", "math/bits.overflowError"], apart := false }
def TearupAllSaid : Prop := tearupAllRow.holds Try.pinned (OpenSpec.ofChange tearupAllSpec)

/-- ITS FALSE NEIGHBOUR: 'it returns false'. Refute it at one input. -/
def tearupAllWrong : ChangeSpec := { name := "tearupAll", fn := fun _ => fun
  | [d1, d2] => { results := [.lit (.bool false)], args := [d1, d2] }
  | _ => none }
def TearupAllWrongFalsely : Prop := tearupAllRow.holds Try.pinned (OpenSpec.ofChange tearupAllWrong)

/- THE SECOND FORM. 'bulk': how many values and letters a reading holds, each counted each time it is reached (what is shared counts as often as it is met; a slice's spare places count too). A statement '..UptoSaid' is the law's where the arguments, and the package variables that the reading takes, are together of bulk at most 1048576: NARROWER than '..Said'. Prove '..Said' where nothing that the law and all that it calls make is longer than what came in: it says more and counts as full. Else prove '..UptoSaid'. A law counts once. -/
mutual
def uptoBulk {H : Type} : DataW H → Nat
  | .lit (.string bytes) => bytes.length + 1
  | .lit _ => 1
  | .nil => 1
  | .ptr d => uptoBulk d + 1
  | .slice elems spare => uptoBulkAll elems + uptoBulkAll spare + 1
  | .agg parts => uptoBulkAll parts + 1
  | .iface _ d => uptoBulk d + 1
  | .map entries => uptoBulkEntries entries + 1
  | .held _ => 1
def uptoBulkAll {H : Type} : List (DataW H) → Nat
  | [] => 0
  | d :: r => uptoBulk d + uptoBulkAll r
def uptoBulkEntries {H : Type} : List (Lit × DataW H) → Nat
  | [] => 0
  | x :: r => uptoBulkEntry x + uptoBulkEntries r
def uptoBulkEntry {H : Type} : Lit × DataW H → Nat
  | (.string bytes, d) => bytes.length + uptoBulk d + 1
  | (_, d) => uptoBulk d + 1
 end
def uptoSmall : (H : Type) → List (DataW H) → Bool := fun _ ds => decide (uptoBulkAll ds ≤ 1048576)
def OpenSpec.upto (s : _root_.Go.ChangeSpec) : _root_.Go.OpenSpec := { _root_.Go.OpenSpec.ofChange s with cond := some uptoSmall }

/-- 'broadsidelaw14.TearupParts', WHERE WHAT IT READS IS OF BULK AT MOST 1048576: true; the input reads as it did. -/
def tearupPartsUptoRow : OpenClaim := { program := "ytpfhkmppbochnaa", sum := "c2e3085cffee9418604db9b889a2148d99fa7c37de59323e6fd1c9d4bff02d10", func := "broadside/broadsidelaw14.TearupParts", spec := "tearupParts", inPlace := ["math/bits.Add64"], unfollowed := true, recurses := true, named := ["math/bits.divideError", "math/bits.overflowError"], apart := false, narrowed := true }
def TearupPartsUptoSaid : Prop := tearupPartsUptoRow.holds Try.pinned (OpenSpec.upto tearupPartsSpec)

/-- 'broadsidelaw14.TearupWhole', WHERE WHAT IT READS IS OF BULK AT MOST 1048576: true; the input reads as it did. -/
def tearupWholeUptoRow : OpenClaim := { program := "ytpfhkmppbochnaa", sum := "c2e3085cffee9418604db9b889a2148d99fa7c37de59323e6fd1c9d4bff02d10", func := "broadside/broadsidelaw14.TearupWhole", spec := "tearupWhole", inPlace := ["math/bits.Add64"], unfollowed := true, recurses := true, named := ["math/bits.divideError", "math/bits.overflowError"], apart := false, narrowed := true }
def TearupWholeUptoSaid : Prop := tearupWholeUptoRow.holds Try.pinned (OpenSpec.upto tearupWholeSpec)

/-- 'broadsidelaw14.TearupTurned', WHERE WHAT IT READS IS OF BULK AT MOST 1048576: true; the input reads as it did. -/
def tearupTurnedUptoRow : OpenClaim := { program := "ytpfhkmppbochnaa", sum := "c2e3085cffee9418604db9b889a2148d99fa7c37de59323e6fd1c9d4bff02d10", func := "broadside/broadsidelaw14.TearupTurned", spec := "tearupTurned", inPlace := ["math/bits.Add64"], unfollowed := true, recurses := true, named := ["math/bits.divideError", "math/bits.overflowError"], apart := false, narrowed := true }
def TearupTurnedUptoSaid : Prop := tearupTurnedUptoRow.holds Try.pinned (OpenSpec.upto tearupTurnedSpec)

/-- 'broadsidelaw14.TearupAll', WHERE WHAT IT READS IS OF BULK AT MOST 1048576: true; the input reads as it did. -/
def tearupAllUptoRow : OpenClaim := { program := "ytpfhkmppbochnaa", sum := "c2e3085cffee9418604db9b889a2148d99fa7c37de59323e6fd1c9d4bff02d10", func := "broadside/broadsidelaw14.TearupAll", spec := "tearupAll", inPlace := ["math/bits.Add64"], unfollowed := true, recurses := true, named := ["math/bits.divideError", "math/bits.overflowError"], apart := false, narrowed := true }
def TearupAllUptoSaid : Prop := tearupAllUptoRow.holds Try.pinned (OpenSpec.upto tearupAllSpec)

end Rows
end Go.Proofs.Ytpfhkmppbochnaa
