/-
  No cell of these rows narrows 'for every input' (looked for: loops, veiled, ifaces, maps, wideKeys, modest, calm, conditions, laid).
  DERIVED. THE GIVEN ROWS OF THIS SEAT. 4 by the template 'for every input the law returns true; each argument reads behind the call as it read before'; 0 by the template 'total and deterministic' (their statements: YtlbekdpmfjhjhaaTotals.lean).
  GIVEN WITH THE SEED: the statements are not yours to turn. If you find one false, say at which input.
  Laid BY PROGRAM, IN A SANDBOX (cutbox-rows.mjs): the forced cells as the released guide's own fill.sh prints them over the translation abc3141153193dd3… (all of the seat's roots in one cut). By AI agents, Wed Nov 11 2026. No macro, syntax, notation, axiom, sorry.
-/
import Derived.Test.YtlbekdpmfjhjhaaChecked
import GoSem.Claim
import GoSem.ClaimJoined
import GoSem.ClaimMapViews
import Derived.JoinedTies
import Derived.KernelRfl
namespace Go.Proofs.Ytlbekdpmfjhjhaa
/- THE CELL 'sum', in the pinned program and in every row, IS THE sha256 OF THE DUMP (.gsa) THAT YtlbekdpmfjhjhaaProg.lean LOADS. Nothing in Lean hashes anything: it is a label: what it is worth is what the hold of that sum in a sandbox is worth. -/
noncomputable def Try.pinned : Pinned := { name := "ytlbekdpmfjhjhaa", sum := "abc3141153193dd3352c81083d4e5dca6a7faf91f55d64d1225c64b52429a572", checked := Try.checked }
namespace Rows
def none {H : Type} : Left H := { results := [], args := [] }

/-- 'broadsidelaw13.SettleSettles': WHATEVER THE INPUT: true; the input reads as it did. -/
def settleSettlesSpec : ChangeSpec := { name := "settleSettles", fn := fun _ => fun
  | [d1, d2] => { results := [.lit (.bool true)], args := [d1, d2] }
  | _ => none }
def settleSettlesRow : OpenClaim := { program := "ytlbekdpmfjhjhaa", sum := "abc3141153193dd3352c81083d4e5dca6a7faf91f55d64d1225c64b52429a572", func := "broadside/broadsidelaw13.SettleSettles", spec := "settleSettles", inPlace := ["math/bits.Add64"], unfollowed := true, recurses := true, named := ["math/bits.divideError", "math/bits.overflowError"], apart := false }
def SettleSettlesSaid : Prop := settleSettlesRow.holds Try.pinned (OpenSpec.ofChange settleSettlesSpec)

/-- ITS FALSE NEIGHBOUR: 'it returns false'. Refute it at one input. -/
def settleSettlesWrong : ChangeSpec := { name := "settleSettles", fn := fun _ => fun
  | [d1, d2] => { results := [.lit (.bool false)], args := [d1, d2] }
  | _ => none }
def SettleSettlesWrongFalsely : Prop := settleSettlesRow.holds Try.pinned (OpenSpec.ofChange settleSettlesWrong)

/-- 'broadsidelaw13.SettleKeeps': WHATEVER THE INPUT: true; the input reads as it did. -/
def settleKeepsSpec : ChangeSpec := { name := "settleKeeps", fn := fun _ => fun
  | [d1, d2] => { results := [.lit (.bool true)], args := [d1, d2] }
  | _ => none }
def settleKeepsRow : OpenClaim := { program := "ytlbekdpmfjhjhaa", sum := "abc3141153193dd3352c81083d4e5dca6a7faf91f55d64d1225c64b52429a572", func := "broadside/broadsidelaw13.SettleKeeps", spec := "settleKeeps", inPlace := ["math/bits.Add64"], unfollowed := true, recurses := true, named := ["math/bits.divideError", "math/bits.overflowError"], apart := false }
def SettleKeepsSaid : Prop := settleKeepsRow.holds Try.pinned (OpenSpec.ofChange settleKeepsSpec)

/-- ITS FALSE NEIGHBOUR: 'it returns false'. Refute it at one input. -/
def settleKeepsWrong : ChangeSpec := { name := "settleKeeps", fn := fun _ => fun
  | [d1, d2] => { results := [.lit (.bool false)], args := [d1, d2] }
  | _ => none }
def SettleKeepsWrongFalsely : Prop := settleKeepsRow.holds Try.pinned (OpenSpec.ofChange settleKeepsWrong)

/-- 'broadsidelaw13.SettleFund': WHATEVER THE INPUT: true; the input reads as it did. -/
def settleFundSpec : ChangeSpec := { name := "settleFund", fn := fun _ => fun
  | [d1, d2, d3] => { results := [.lit (.bool true)], args := [d1, d2, d3] }
  | _ => none }
def settleFundRow : OpenClaim := { program := "ytlbekdpmfjhjhaa", sum := "abc3141153193dd3352c81083d4e5dca6a7faf91f55d64d1225c64b52429a572", func := "broadside/broadsidelaw13.SettleFund", spec := "settleFund", inPlace := ["math/bits.Add64"], unfollowed := true, recurses := true, named := ["math/bits.divideError", "math/bits.overflowError"], apart := false }
def SettleFundSaid : Prop := settleFundRow.holds Try.pinned (OpenSpec.ofChange settleFundSpec)

/-- ITS FALSE NEIGHBOUR: 'it returns false'. Refute it at one input. -/
def settleFundWrong : ChangeSpec := { name := "settleFund", fn := fun _ => fun
  | [d1, d2, d3] => { results := [.lit (.bool false)], args := [d1, d2, d3] }
  | _ => none }
def SettleFundWrongFalsely : Prop := settleFundRow.holds Try.pinned (OpenSpec.ofChange settleFundWrong)

/-- 'broadsidelaw13.SettleIdle': WHATEVER THE INPUT: true; the input reads as it did. -/
def settleIdleSpec : ChangeSpec := { name := "settleIdle", fn := fun _ => fun
  | [d1, d2] => { results := [.lit (.bool true)], args := [d1, d2] }
  | _ => none }
def settleIdleRow : OpenClaim := { program := "ytlbekdpmfjhjhaa", sum := "abc3141153193dd3352c81083d4e5dca6a7faf91f55d64d1225c64b52429a572", func := "broadside/broadsidelaw13.SettleIdle", spec := "settleIdle", inPlace := ["math/bits.Add64"], unfollowed := true, recurses := true, named := ["math/bits.divideError", "math/bits.overflowError"], apart := false }
def SettleIdleSaid : Prop := settleIdleRow.holds Try.pinned (OpenSpec.ofChange settleIdleSpec)

/-- ITS FALSE NEIGHBOUR: 'it returns false'. Refute it at one input. -/
def settleIdleWrong : ChangeSpec := { name := "settleIdle", fn := fun _ => fun
  | [d1, d2] => { results := [.lit (.bool false)], args := [d1, d2] }
  | _ => none }
def SettleIdleWrongFalsely : Prop := settleIdleRow.holds Try.pinned (OpenSpec.ofChange settleIdleWrong)

/- THE SECOND FORM. 'bulk': how many values and letters a reading holds, each counted each time it is reached (what is shared counts as often as it is met; a slice's spare places count too). A statement '..UptoSaid' is the law's where the arguments, and the package variables that the reading takes, are together of bulk at most 1048576: NARROWER than '..Said'. Prove '..Said' where nothing that the law and all that it calls make is longer than what came in: it says more and counts as full. Else prove '..UptoSaid'. A law counts once. -/
mutual
def uptoBulk {H : Type} : DataW H → Nat
  | .lit (.string bytes) => bytes.length + 1
  | .lit _ => 1
  | .nil => 1
  | .ptr d => uptoBulk d + 1
  | .slice elems spare => uptoBulkAll elems + uptoBulkAll spare + 1
  | .agg parts => uptoBulkAll parts + 1
  | .iface _ d => uptoBulk d + 1
  | .map entries => uptoBulkEntries entries + 1
  | .held _ => 1
def uptoBulkAll {H : Type} : List (DataW H) → Nat
  | [] => 0
  | d :: r => uptoBulk d + uptoBulkAll r
def uptoBulkEntries {H : Type} : List (Lit × DataW H) → Nat
  | [] => 0
  | x :: r => uptoBulkEntry x + uptoBulkEntries r
def uptoBulkEntry {H : Type} : Lit × DataW H → Nat
  | (.string bytes, d) => bytes.length + uptoBulk d + 1
  | (_, d) => uptoBulk d + 1
 end
def uptoSmall : (H : Type) → List (DataW H) → Bool := fun _ ds => decide (uptoBulkAll ds ≤ 1048576)
def OpenSpec.upto (s : _root_.Go.ChangeSpec) : _root_.Go.OpenSpec := { _root_.Go.OpenSpec.ofChange s with cond := some uptoSmall }

/-- 'broadsidelaw13.SettleSettles', WHERE WHAT IT READS IS OF BULK AT MOST 1048576: true; the input reads as it did. -/
def settleSettlesUptoRow : OpenClaim := { program := "ytlbekdpmfjhjhaa", sum := "abc3141153193dd3352c81083d4e5dca6a7faf91f55d64d1225c64b52429a572", func := "broadside/broadsidelaw13.SettleSettles", spec := "settleSettles", inPlace := ["math/bits.Add64"], unfollowed := true, recurses := true, named := ["math/bits.divideError", "math/bits.overflowError"], apart := false, narrowed := true }
def SettleSettlesUptoSaid : Prop := settleSettlesUptoRow.holds Try.pinned (OpenSpec.upto settleSettlesSpec)

/-- 'broadsidelaw13.SettleKeeps', WHERE WHAT IT READS IS OF BULK AT MOST 1048576: true; the input reads as it did. -/
def settleKeepsUptoRow : OpenClaim := { program := "ytlbekdpmfjhjhaa", sum := "abc3141153193dd3352c81083d4e5dca6a7faf91f55d64d1225c64b52429a572", func := "broadside/broadsidelaw13.SettleKeeps", spec := "settleKeeps", inPlace := ["math/bits.Add64"], unfollowed := true, recurses := true, named := ["math/bits.divideError", "math/bits.overflowError"], apart := false, narrowed := true }
def SettleKeepsUptoSaid : Prop := settleKeepsUptoRow.holds Try.pinned (OpenSpec.upto settleKeepsSpec)

/-- 'broadsidelaw13.SettleFund', WHERE WHAT IT READS IS OF BULK AT MOST 1048576: true; the input reads as it did. -/
def settleFundUptoRow : OpenClaim := { program := "ytlbekdpmfjhjhaa", sum := "abc3141153193dd3352c81083d4e5dca6a7faf91f55d64d1225c64b52429a572", func := "broadside/broadsidelaw13.SettleFund", spec := "settleFund", inPlace := ["math/bits.Add64"], unfollowed := true, recurses := true, named := ["math/bits.divideError", "math/bits.overflowError"], apart := false, narrowed := true }
def SettleFundUptoSaid : Prop := settleFundUptoRow.holds Try.pinned (OpenSpec.upto settleFundSpec)

/-- 'broadsidelaw13.SettleIdle', WHERE WHAT IT READS IS OF BULK AT MOST 1048576: true; the input reads as it did. -/
def settleIdleUptoRow : OpenClaim := { program := "ytlbekdpmfjhjhaa", sum := "abc3141153193dd3352c81083d4e5dca6a7faf91f55d64d1225c64b52429a572", func := "broadside/broadsidelaw13.SettleIdle", spec := "settleIdle", inPlace := ["math/bits.Add64"], unfollowed := true, recurses := true, named := ["math/bits.divideError", "math/bits.overflowError"], apart := false, narrowed := true }
def SettleIdleUptoSaid : Prop := settleIdleUptoRow.holds Try.pinned (OpenSpec.upto settleIdleSpec)

end Rows
end Go.Proofs.Ytlbekdpmfjhjhaa
