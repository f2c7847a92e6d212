/-
  No cell of these rows narrows 'for every input' (looked for: loops, veiled, ifaces, maps, wideKeys, modest, calm, conditions, laid).
  DERIVED. THE GIVEN ROWS OF THIS SEAT. 4 by the template 'for every input the law returns true; each argument reads behind the call as it read before'; 0 by the template 'total and deterministic' (their statements: YtcjianjnedbjkaaTotals.lean).
  GIVEN WITH THE SEED: the statements are not yours to turn. If you find one false, say at which input.
  Laid BY PROGRAM, IN A SANDBOX (cutbox-rows.mjs): the forced cells as the released guide's own fill.sh prints them over the translation 518b32b4cb2fa227… (all of the seat's roots in one cut). By AI agents, Wed Nov 11 2026. No macro, syntax, notation, axiom, sorry.
-/
import Derived.Test.YtcjianjnedbjkaaChecked
import GoSem.Claim
import GoSem.ClaimJoined
import GoSem.ClaimMapViews
import Derived.JoinedTies
import Derived.KernelRfl
namespace Go.Proofs.Ytcjianjnedbjkaa
/- THE CELL 'sum', in the pinned program and in every row, IS THE sha256 OF THE DUMP (.gsa) THAT YtcjianjnedbjkaaProg.lean LOADS. Nothing in Lean hashes anything: it is a label: what it is worth is what the hold of that sum in a sandbox is worth. -/
noncomputable def Try.pinned : Pinned := { name := "ytcjianjnedbjkaa", sum := "518b32b4cb2fa2273a8d43da36a8ca1bf7a613e4fafa874fec5ba3e3cea5e3a1", checked := Try.checked }
namespace Rows
def none {H : Type} : Left H := { results := [], args := [] }

/-- 'broadsidelaw08.SealedClears': WHATEVER THE INPUT: true; the input reads as it did. -/
def sealedClearsSpec : ChangeSpec := { name := "sealedClears", fn := fun _ => fun
  | [d1, d2, d3] => { results := [.lit (.bool true)], args := [d1, d2, d3] }
  | _ => none }
def sealedClearsRow : OpenClaim := { program := "ytcjianjnedbjkaa", sum := "518b32b4cb2fa2273a8d43da36a8ca1bf7a613e4fafa874fec5ba3e3cea5e3a1", func := "broadside/broadsidelaw08.SealedClears", spec := "sealedClears", unfollowed := true, recurses := true, apart := false }
def SealedClearsSaid : Prop := sealedClearsRow.holds Try.pinned (OpenSpec.ofChange sealedClearsSpec)

/-- ITS FALSE NEIGHBOUR: 'it returns false'. Refute it at one input. -/
def sealedClearsWrong : ChangeSpec := { name := "sealedClears", fn := fun _ => fun
  | [d1, d2, d3] => { results := [.lit (.bool false)], args := [d1, d2, d3] }
  | _ => none }
def SealedClearsWrongFalsely : Prop := sealedClearsRow.holds Try.pinned (OpenSpec.ofChange sealedClearsWrong)

/-- 'broadsidelaw08.SealedFair': WHATEVER THE INPUT: true; the input reads as it did. -/
def sealedFairSpec : ChangeSpec := { name := "sealedFair", fn := fun _ => fun
  | [d1, d2, d3] => { results := [.lit (.bool true)], args := [d1, d2, d3] }
  | _ => none }
def sealedFairRow : OpenClaim := { program := "ytcjianjnedbjkaa", sum := "518b32b4cb2fa2273a8d43da36a8ca1bf7a613e4fafa874fec5ba3e3cea5e3a1", func := "broadside/broadsidelaw08.SealedFair", spec := "sealedFair", unfollowed := true, recurses := true, apart := false }
def SealedFairSaid : Prop := sealedFairRow.holds Try.pinned (OpenSpec.ofChange sealedFairSpec)

/-- ITS FALSE NEIGHBOUR: 'it returns false'. Refute it at one input. -/
def sealedFairWrong : ChangeSpec := { name := "sealedFair", fn := fun _ => fun
  | [d1, d2, d3] => { results := [.lit (.bool false)], args := [d1, d2, d3] }
  | _ => none }
def SealedFairWrongFalsely : Prop := sealedFairRow.holds Try.pinned (OpenSpec.ofChange sealedFairWrong)

/-- 'broadsidelaw08.SealedMore': WHATEVER THE INPUT: true; the input reads as it did. -/
def sealedMoreSpec : ChangeSpec := { name := "sealedMore", fn := fun _ => fun
  | [d1, d2, d3, d4, d5] => { results := [.lit (.bool true)], args := [d1, d2, d3, d4, d5] }
  | _ => none }
def sealedMoreRow : OpenClaim := { program := "ytcjianjnedbjkaa", sum := "518b32b4cb2fa2273a8d43da36a8ca1bf7a613e4fafa874fec5ba3e3cea5e3a1", func := "broadside/broadsidelaw08.SealedMore", spec := "sealedMore", unfollowed := true, recurses := true, apart := false }
def SealedMoreSaid : Prop := sealedMoreRow.holds Try.pinned (OpenSpec.ofChange sealedMoreSpec)

/-- ITS FALSE NEIGHBOUR: 'it returns false'. Refute it at one input. -/
def sealedMoreWrong : ChangeSpec := { name := "sealedMore", fn := fun _ => fun
  | [d1, d2, d3, d4, d5] => { results := [.lit (.bool false)], args := [d1, d2, d3, d4, d5] }
  | _ => none }
def SealedMoreWrongFalsely : Prop := sealedMoreRow.holds Try.pinned (OpenSpec.ofChange sealedMoreWrong)

/-- 'broadsidelaw08.SealedTurned': WHATEVER THE INPUT: true; the input reads as it did. -/
def sealedTurnedSpec : ChangeSpec := { name := "sealedTurned", fn := fun _ => fun
  | [d1, d2] => { results := [.lit (.bool true)], args := [d1, d2] }
  | _ => none }
def sealedTurnedRow : OpenClaim := { program := "ytcjianjnedbjkaa", sum := "518b32b4cb2fa2273a8d43da36a8ca1bf7a613e4fafa874fec5ba3e3cea5e3a1", func := "broadside/broadsidelaw08.SealedTurned", spec := "sealedTurned", unfollowed := true, recurses := true, apart := false }
def SealedTurnedSaid : Prop := sealedTurnedRow.holds Try.pinned (OpenSpec.ofChange sealedTurnedSpec)

/-- ITS FALSE NEIGHBOUR: 'it returns false'. Refute it at one input. -/
def sealedTurnedWrong : ChangeSpec := { name := "sealedTurned", fn := fun _ => fun
  | [d1, d2] => { results := [.lit (.bool false)], args := [d1, d2] }
  | _ => none }
def SealedTurnedWrongFalsely : Prop := sealedTurnedRow.holds Try.pinned (OpenSpec.ofChange sealedTurnedWrong)

/- THE SECOND FORM. 'bulk': how many values and letters a reading holds, each counted each time it is reached (what is shared counts as often as it is met; a slice's spare places count too). A statement '..UptoSaid' is the law's where the arguments, and the package variables that the reading takes, are together of bulk at most 1048576: NARROWER than '..Said'. Prove '..Said' where nothing that the law and all that it calls make is longer than what came in: it says more and counts as full. Else prove '..UptoSaid'. A law counts once. -/
mutual
def uptoBulk {H : Type} : DataW H → Nat
  | .lit (.string bytes) => bytes.length + 1
  | .lit _ => 1
  | .nil => 1
  | .ptr d => uptoBulk d + 1
  | .slice elems spare => uptoBulkAll elems + uptoBulkAll spare + 1
  | .agg parts => uptoBulkAll parts + 1
  | .iface _ d => uptoBulk d + 1
  | .map entries => uptoBulkEntries entries + 1
  | .held _ => 1
def uptoBulkAll {H : Type} : List (DataW H) → Nat
  | [] => 0
  | d :: r => uptoBulk d + uptoBulkAll r
def uptoBulkEntries {H : Type} : List (Lit × DataW H) → Nat
  | [] => 0
  | x :: r => uptoBulkEntry x + uptoBulkEntries r
def uptoBulkEntry {H : Type} : Lit × DataW H → Nat
  | (.string bytes, d) => bytes.length + uptoBulk d + 1
  | (_, d) => uptoBulk d + 1
 end
def uptoSmall : (H : Type) → List (DataW H) → Bool := fun _ ds => decide (uptoBulkAll ds ≤ 1048576)
def OpenSpec.upto (s : _root_.Go.ChangeSpec) : _root_.Go.OpenSpec := { _root_.Go.OpenSpec.ofChange s with cond := some uptoSmall }

/-- 'broadsidelaw08.SealedClears', WHERE WHAT IT READS IS OF BULK AT MOST 1048576: true; the input reads as it did. -/
def sealedClearsUptoRow : OpenClaim := { program := "ytcjianjnedbjkaa", sum := "518b32b4cb2fa2273a8d43da36a8ca1bf7a613e4fafa874fec5ba3e3cea5e3a1", func := "broadside/broadsidelaw08.SealedClears", spec := "sealedClears", unfollowed := true, recurses := true, apart := false, narrowed := true }
def SealedClearsUptoSaid : Prop := sealedClearsUptoRow.holds Try.pinned (OpenSpec.upto sealedClearsSpec)

/-- 'broadsidelaw08.SealedFair', WHERE WHAT IT READS IS OF BULK AT MOST 1048576: true; the input reads as it did. -/
def sealedFairUptoRow : OpenClaim := { program := "ytcjianjnedbjkaa", sum := "518b32b4cb2fa2273a8d43da36a8ca1bf7a613e4fafa874fec5ba3e3cea5e3a1", func := "broadside/broadsidelaw08.SealedFair", spec := "sealedFair", unfollowed := true, recurses := true, apart := false, narrowed := true }
def SealedFairUptoSaid : Prop := sealedFairUptoRow.holds Try.pinned (OpenSpec.upto sealedFairSpec)

/-- 'broadsidelaw08.SealedMore', WHERE WHAT IT READS IS OF BULK AT MOST 1048576: true; the input reads as it did. -/
def sealedMoreUptoRow : OpenClaim := { program := "ytcjianjnedbjkaa", sum := "518b32b4cb2fa2273a8d43da36a8ca1bf7a613e4fafa874fec5ba3e3cea5e3a1", func := "broadside/broadsidelaw08.SealedMore", spec := "sealedMore", unfollowed := true, recurses := true, apart := false, narrowed := true }
def SealedMoreUptoSaid : Prop := sealedMoreUptoRow.holds Try.pinned (OpenSpec.upto sealedMoreSpec)

/-- 'broadsidelaw08.SealedTurned', WHERE WHAT IT READS IS OF BULK AT MOST 1048576: true; the input reads as it did. -/
def sealedTurnedUptoRow : OpenClaim := { program := "ytcjianjnedbjkaa", sum := "518b32b4cb2fa2273a8d43da36a8ca1bf7a613e4fafa874fec5ba3e3cea5e3a1", func := "broadside/broadsidelaw08.SealedTurned", spec := "sealedTurned", unfollowed := true, recurses := true, apart := false, narrowed := true }
def SealedTurnedUptoSaid : Prop := sealedTurnedUptoRow.holds Try.pinned (OpenSpec.upto sealedTurnedSpec)

end Rows
end Go.Proofs.Ytcjianjnedbjkaa
