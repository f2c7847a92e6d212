/-
  No cell of these rows narrows 'for every input' (looked for: loops, veiled, ifaces, maps, wideKeys, modest, calm, conditions, laid).
  DERIVED. THE GIVEN ROWS OF THIS SEAT. 5 by the template 'for every input the law returns true; each argument reads behind the call as it read before'; 0 by the template 'total and deterministic' (their statements: YtpnccbcaoifdiaaTotals.lean).
  GIVEN WITH THE SEED: the statements are not yours to turn. If you find one false, say at which input.
  Laid BY PROGRAM, IN A SANDBOX (cutbox-rows.mjs): the forced cells as the released guide's own fill.sh prints them over the translation e44f381f98d04752… (all of the seat's roots in one cut). By AI agents, Wed Nov 11 2026. No macro, syntax, notation, axiom, sorry.
-/
import Derived.Test.YtpnccbcaoifdiaaChecked
import GoSem.Claim
import GoSem.ClaimJoined
import GoSem.ClaimMapViews
import Derived.JoinedTies
import Derived.KernelRfl
namespace Go.Proofs.Ytpnccbcaoifdiaa
/- THE CELL 'sum', in the pinned program and in every row, IS THE sha256 OF THE DUMP (.gsa) THAT YtpnccbcaoifdiaaProg.lean LOADS. Nothing in Lean hashes anything: it is a label: what it is worth is what the hold of that sum in a sandbox is worth. -/
noncomputable def Try.pinned : Pinned := { name := "ytpnccbcaoifdiaa", sum := "e44f381f98d04752a5d2d62befeb1353f7f28d11fb8a7681c185e16f2e791704", checked := Try.checked }
namespace Rows
def none {H : Type} : Left H := { results := [], args := [] }

/-- 'broadsidelaw06.SidePlays': WHATEVER THE INPUT: true; the input reads as it did. -/
def sidePlaysSpec : ChangeSpec := { name := "sidePlays", fn := fun _ => fun
  | [d1, d2] => { results := [.lit (.bool true)], args := [d1, d2] }
  | _ => none }
def sidePlaysRow : OpenClaim := { program := "ytpnccbcaoifdiaa", sum := "e44f381f98d04752a5d2d62befeb1353f7f28d11fb8a7681c185e16f2e791704", func := "broadside/broadsidelaw06.SidePlays", spec := "sidePlays", inPlace := ["slices.overlaps[broadside/side.stood]"], unfollowed := true, recurses := true, apart := false }
def SidePlaysSaid : Prop := sidePlaysRow.holds Try.pinned (OpenSpec.ofChange sidePlaysSpec)

/-- ITS FALSE NEIGHBOUR: 'it returns false'. Refute it at one input. -/
def sidePlaysWrong : ChangeSpec := { name := "sidePlays", fn := fun _ => fun
  | [d1, d2] => { results := [.lit (.bool false)], args := [d1, d2] }
  | _ => none }
def SidePlaysWrongFalsely : Prop := sidePlaysRow.holds Try.pinned (OpenSpec.ofChange sidePlaysWrong)

/-- 'broadsidelaw06.SideNone': WHATEVER THE INPUT: true; the input reads as it did. -/
def sideNoneSpec : ChangeSpec := { name := "sideNone", fn := fun _ => fun
  | [d1, d2] => { results := [.lit (.bool true)], args := [d1, d2] }
  | _ => none }
def sideNoneRow : OpenClaim := { program := "ytpnccbcaoifdiaa", sum := "e44f381f98d04752a5d2d62befeb1353f7f28d11fb8a7681c185e16f2e791704", func := "broadside/broadsidelaw06.SideNone", spec := "sideNone", inPlace := ["slices.overlaps[broadside/side.stood]"], unfollowed := true, recurses := true, apart := false }
def SideNoneSaid : Prop := sideNoneRow.holds Try.pinned (OpenSpec.ofChange sideNoneSpec)

/-- ITS FALSE NEIGHBOUR: 'it returns false'. Refute it at one input. -/
def sideNoneWrong : ChangeSpec := { name := "sideNone", fn := fun _ => fun
  | [d1, d2] => { results := [.lit (.bool false)], args := [d1, d2] }
  | _ => none }
def SideNoneWrongFalsely : Prop := sideNoneRow.holds Try.pinned (OpenSpec.ofChange sideNoneWrong)

/-- 'broadsidelaw06.SideFair': WHATEVER THE INPUT: true; the input reads as it did. -/
def sideFairSpec : ChangeSpec := { name := "sideFair", fn := fun _ => fun
  | [d1, d2] => { results := [.lit (.bool true)], args := [d1, d2] }
  | _ => none }
def sideFairRow : OpenClaim := { program := "ytpnccbcaoifdiaa", sum := "e44f381f98d04752a5d2d62befeb1353f7f28d11fb8a7681c185e16f2e791704", func := "broadside/broadsidelaw06.SideFair", spec := "sideFair", inPlace := ["slices.overlaps[broadside/side.stood]"], unfollowed := true, recurses := true, apart := false }
def SideFairSaid : Prop := sideFairRow.holds Try.pinned (OpenSpec.ofChange sideFairSpec)

/-- ITS FALSE NEIGHBOUR: 'it returns false'. Refute it at one input. -/
def sideFairWrong : ChangeSpec := { name := "sideFair", fn := fun _ => fun
  | [d1, d2] => { results := [.lit (.bool false)], args := [d1, d2] }
  | _ => none }
def SideFairWrongFalsely : Prop := sideFairRow.holds Try.pinned (OpenSpec.ofChange sideFairWrong)

/-- 'broadsidelaw06.SideReach': WHATEVER THE INPUT: true; the input reads as it did. -/
def sideReachSpec : ChangeSpec := { name := "sideReach", fn := fun _ => fun
  | [d1, d2, d3] => { results := [.lit (.bool true)], args := [d1, d2, d3] }
  | _ => none }
def sideReachRow : OpenClaim := { program := "ytpnccbcaoifdiaa", sum := "e44f381f98d04752a5d2d62befeb1353f7f28d11fb8a7681c185e16f2e791704", func := "broadside/broadsidelaw06.SideReach", spec := "sideReach", inPlace := ["slices.overlaps[broadside/side.stood]"], unfollowed := true, recurses := true, apart := false }
def SideReachSaid : Prop := sideReachRow.holds Try.pinned (OpenSpec.ofChange sideReachSpec)

/-- ITS FALSE NEIGHBOUR: 'it returns false'. Refute it at one input. -/
def sideReachWrong : ChangeSpec := { name := "sideReach", fn := fun _ => fun
  | [d1, d2, d3] => { results := [.lit (.bool false)], args := [d1, d2, d3] }
  | _ => none }
def SideReachWrongFalsely : Prop := sideReachRow.holds Try.pinned (OpenSpec.ofChange sideReachWrong)

/-- 'broadsidelaw06.SideTurned': WHATEVER THE INPUT: true; the input reads as it did. -/
def sideTurnedSpec : ChangeSpec := { name := "sideTurned", fn := fun _ => fun
  | [d] => { results := [.lit (.bool true)], args := [d] }
  | _ => none }
def sideTurnedRow : OpenClaim := { program := "ytpnccbcaoifdiaa", sum := "e44f381f98d04752a5d2d62befeb1353f7f28d11fb8a7681c185e16f2e791704", func := "broadside/broadsidelaw06.SideTurned", spec := "sideTurned", inPlace := ["slices.overlaps[broadside/side.stood]"], unfollowed := true, recurses := true, apart := false }
def SideTurnedSaid : Prop := sideTurnedRow.holds Try.pinned (OpenSpec.ofChange sideTurnedSpec)

/-- ITS FALSE NEIGHBOUR: 'it returns false'. Refute it at one input. -/
def sideTurnedWrong : ChangeSpec := { name := "sideTurned", fn := fun _ => fun
  | [d] => { results := [.lit (.bool false)], args := [d] }
  | _ => none }
def SideTurnedWrongFalsely : Prop := sideTurnedRow.holds Try.pinned (OpenSpec.ofChange sideTurnedWrong)

/- THE SECOND FORM. 'bulk': how many values and letters a reading holds, each counted each time it is reached (what is shared counts as often as it is met; a slice's spare places count too). A statement '..UptoSaid' is the law's where the arguments, and the package variables that the reading takes, are together of bulk at most 1048576: NARROWER than '..Said'. Prove '..Said' where nothing that the law and all that it calls make is longer than what came in: it says more and counts as full. Else prove '..UptoSaid'. A law counts once. -/
mutual
def uptoBulk {H : Type} : DataW H → Nat
  | .lit (.string bytes) => bytes.length + 1
  | .lit _ => 1
  | .nil => 1
  | .ptr d => uptoBulk d + 1
  | .slice elems spare => uptoBulkAll elems + uptoBulkAll spare + 1
  | .agg parts => uptoBulkAll parts + 1
  | .iface _ d => uptoBulk d + 1
  | .map entries => uptoBulkEntries entries + 1
  | .held _ => 1
def uptoBulkAll {H : Type} : List (DataW H) → Nat
  | [] => 0
  | d :: r => uptoBulk d + uptoBulkAll r
def uptoBulkEntries {H : Type} : List (Lit × DataW H) → Nat
  | [] => 0
  | x :: r => uptoBulkEntry x + uptoBulkEntries r
def uptoBulkEntry {H : Type} : Lit × DataW H → Nat
  | (.string bytes, d) => bytes.length + uptoBulk d + 1
  | (_, d) => uptoBulk d + 1
 end
def uptoSmall : (H : Type) → List (DataW H) → Bool := fun _ ds => decide (uptoBulkAll ds ≤ 1048576)
def OpenSpec.upto (s : _root_.Go.ChangeSpec) : _root_.Go.OpenSpec := { _root_.Go.OpenSpec.ofChange s with cond := some uptoSmall }

/-- 'broadsidelaw06.SidePlays', WHERE WHAT IT READS IS OF BULK AT MOST 1048576: true; the input reads as it did. -/
def sidePlaysUptoRow : OpenClaim := { program := "ytpnccbcaoifdiaa", sum := "e44f381f98d04752a5d2d62befeb1353f7f28d11fb8a7681c185e16f2e791704", func := "broadside/broadsidelaw06.SidePlays", spec := "sidePlays", inPlace := ["slices.overlaps[broadside/side.stood]"], unfollowed := true, recurses := true, apart := false, narrowed := true }
def SidePlaysUptoSaid : Prop := sidePlaysUptoRow.holds Try.pinned (OpenSpec.upto sidePlaysSpec)

/-- 'broadsidelaw06.SideNone', WHERE WHAT IT READS IS OF BULK AT MOST 1048576: true; the input reads as it did. -/
def sideNoneUptoRow : OpenClaim := { program := "ytpnccbcaoifdiaa", sum := "e44f381f98d04752a5d2d62befeb1353f7f28d11fb8a7681c185e16f2e791704", func := "broadside/broadsidelaw06.SideNone", spec := "sideNone", inPlace := ["slices.overlaps[broadside/side.stood]"], unfollowed := true, recurses := true, apart := false, narrowed := true }
def SideNoneUptoSaid : Prop := sideNoneUptoRow.holds Try.pinned (OpenSpec.upto sideNoneSpec)

/-- 'broadsidelaw06.SideFair', WHERE WHAT IT READS IS OF BULK AT MOST 1048576: true; the input reads as it did. -/
def sideFairUptoRow : OpenClaim := { program := "ytpnccbcaoifdiaa", sum := "e44f381f98d04752a5d2d62befeb1353f7f28d11fb8a7681c185e16f2e791704", func := "broadside/broadsidelaw06.SideFair", spec := "sideFair", inPlace := ["slices.overlaps[broadside/side.stood]"], unfollowed := true, recurses := true, apart := false, narrowed := true }
def SideFairUptoSaid : Prop := sideFairUptoRow.holds Try.pinned (OpenSpec.upto sideFairSpec)

/-- 'broadsidelaw06.SideReach', WHERE WHAT IT READS IS OF BULK AT MOST 1048576: true; the input reads as it did. -/
def sideReachUptoRow : OpenClaim := { program := "ytpnccbcaoifdiaa", sum := "e44f381f98d04752a5d2d62befeb1353f7f28d11fb8a7681c185e16f2e791704", func := "broadside/broadsidelaw06.SideReach", spec := "sideReach", inPlace := ["slices.overlaps[broadside/side.stood]"], unfollowed := true, recurses := true, apart := false, narrowed := true }
def SideReachUptoSaid : Prop := sideReachUptoRow.holds Try.pinned (OpenSpec.upto sideReachSpec)

/-- 'broadsidelaw06.SideTurned', WHERE WHAT IT READS IS OF BULK AT MOST 1048576: true; the input reads as it did. -/
def sideTurnedUptoRow : OpenClaim := { program := "ytpnccbcaoifdiaa", sum := "e44f381f98d04752a5d2d62befeb1353f7f28d11fb8a7681c185e16f2e791704", func := "broadside/broadsidelaw06.SideTurned", spec := "sideTurned", inPlace := ["slices.overlaps[broadside/side.stood]"], unfollowed := true, recurses := true, apart := false, narrowed := true }
def SideTurnedUptoSaid : Prop := sideTurnedUptoRow.holds Try.pinned (OpenSpec.upto sideTurnedSpec)

end Rows
end Go.Proofs.Ytpnccbcaoifdiaa
