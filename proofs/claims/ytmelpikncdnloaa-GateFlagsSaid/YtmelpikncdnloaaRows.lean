/-
  No cell of these rows narrows 'for every input' (looked for: loops, veiled, ifaces, maps, wideKeys, modest, calm, conditions, laid).
  DERIVED. THE GIVEN ROWS OF THIS SEAT. 3 by the template 'for every input the law returns true; each argument reads behind the call as it read before'; 0 by the template 'total and deterministic' (their statements: YtmelpikncdnloaaTotals.lean).
  GIVEN WITH THE SEED: the statements are not yours to turn. If you find one false, say at which input.
  Laid BY PROGRAM, IN A SANDBOX (cutbox-rows.mjs): the forced cells as the released guide's own fill.sh prints them over the translation 0697f3c1cd964476… (all of the seat's roots in one cut). By AI agents, Wed Nov 11 2026. No macro, syntax, notation, axiom, sorry.
-/
import Derived.Test.YtmelpikncdnloaaChecked
import GoSem.Claim
import GoSem.ClaimJoined
import GoSem.ClaimMapViews
import Derived.JoinedTies
import Derived.KernelRfl
namespace Go.Proofs.Ytmelpikncdnloaa
/- THE CELL 'sum', in the pinned program and in every row, IS THE sha256 OF THE DUMP (.gsa) THAT YtmelpikncdnloaaProg.lean LOADS. Nothing in Lean hashes anything: it is a label: what it is worth is what the hold of that sum in a sandbox is worth. -/
noncomputable def Try.pinned : Pinned := { name := "ytmelpikncdnloaa", sum := "0697f3c1cd964476d18377b5894bda17e3c48de4bec9d9255f527e1b0821e421", checked := Try.checked }
namespace Rows
def none {H : Type} : Left H := { results := [], args := [] }

/-- 'broadsidelaw12.GateChecks': WHATEVER THE INPUT: true; the input reads as it did. -/
def gateChecksSpec : ChangeSpec := { name := "gateChecks", fn := fun _ => fun
  | [d] => { results := [.lit (.bool true)], args := [d] }
  | _ => none }
def gateChecksRow : OpenClaim := { program := "ytmelpikncdnloaa", sum := "0697f3c1cd964476d18377b5894bda17e3c48de4bec9d9255f527e1b0821e421", func := "broadside/broadsidelaw12.GateChecks", spec := "gateChecks", apart := false }
def GateChecksSaid : Prop := gateChecksRow.holds Try.pinned (OpenSpec.ofChange gateChecksSpec)

/-- ITS FALSE NEIGHBOUR: 'it returns false'. Refute it at one input. -/
def gateChecksWrong : ChangeSpec := { name := "gateChecks", fn := fun _ => fun
  | [d] => { results := [.lit (.bool false)], args := [d] }
  | _ => none }
def GateChecksWrongFalsely : Prop := gateChecksRow.holds Try.pinned (OpenSpec.ofChange gateChecksWrong)

/-- 'broadsidelaw12.GateLess': WHATEVER THE INPUT: true; the input reads as it did. -/
def gateLessSpec : ChangeSpec := { name := "gateLess", fn := fun _ => fun
  | [d1, d2, d3] => { results := [.lit (.bool true)], args := [d1, d2, d3] }
  | _ => none }
def gateLessRow : OpenClaim := { program := "ytmelpikncdnloaa", sum := "0697f3c1cd964476d18377b5894bda17e3c48de4bec9d9255f527e1b0821e421", func := "broadside/broadsidelaw12.GateLess", spec := "gateLess", apart := false }
def GateLessSaid : Prop := gateLessRow.holds Try.pinned (OpenSpec.ofChange gateLessSpec)

/-- ITS FALSE NEIGHBOUR: 'it returns false'. Refute it at one input. -/
def gateLessWrong : ChangeSpec := { name := "gateLess", fn := fun _ => fun
  | [d1, d2, d3] => { results := [.lit (.bool false)], args := [d1, d2, d3] }
  | _ => none }
def GateLessWrongFalsely : Prop := gateLessRow.holds Try.pinned (OpenSpec.ofChange gateLessWrong)

/-- 'broadsidelaw12.GateFlags': WHATEVER THE INPUT: true; the input reads as it did. -/
def gateFlagsSpec : ChangeSpec := { name := "gateFlags", fn := fun _ => fun
  | [d1, d2] => { results := [.lit (.bool true)], args := [d1, d2] }
  | _ => none }
def gateFlagsRow : OpenClaim := { program := "ytmelpikncdnloaa", sum := "0697f3c1cd964476d18377b5894bda17e3c48de4bec9d9255f527e1b0821e421", func := "broadside/broadsidelaw12.GateFlags", spec := "gateFlags", apart := false }
def GateFlagsSaid : Prop := gateFlagsRow.holds Try.pinned (OpenSpec.ofChange gateFlagsSpec)

/-- ITS FALSE NEIGHBOUR: 'it returns false'. Refute it at one input. -/
def gateFlagsWrong : ChangeSpec := { name := "gateFlags", fn := fun _ => fun
  | [d1, d2] => { results := [.lit (.bool false)], args := [d1, d2] }
  | _ => none }
def GateFlagsWrongFalsely : Prop := gateFlagsRow.holds Try.pinned (OpenSpec.ofChange gateFlagsWrong)

/- THE SECOND FORM. 'bulk': how many values and letters a reading holds, each counted each time it is reached (what is shared counts as often as it is met; a slice's spare places count too). A statement '..UptoSaid' is the law's where the arguments, and the package variables that the reading takes, are together of bulk at most 1048576: NARROWER than '..Said'. Prove '..Said' where nothing that the law and all that it calls make is longer than what came in: it says more and counts as full. Else prove '..UptoSaid'. A law counts once. -/
mutual
def uptoBulk {H : Type} : DataW H → Nat
  | .lit (.string bytes) => bytes.length + 1
  | .lit _ => 1
  | .nil => 1
  | .ptr d => uptoBulk d + 1
  | .slice elems spare => uptoBulkAll elems + uptoBulkAll spare + 1
  | .agg parts => uptoBulkAll parts + 1
  | .iface _ d => uptoBulk d + 1
  | .map entries => uptoBulkEntries entries + 1
  | .held _ => 1
def uptoBulkAll {H : Type} : List (DataW H) → Nat
  | [] => 0
  | d :: r => uptoBulk d + uptoBulkAll r
def uptoBulkEntries {H : Type} : List (Lit × DataW H) → Nat
  | [] => 0
  | x :: r => uptoBulkEntry x + uptoBulkEntries r
def uptoBulkEntry {H : Type} : Lit × DataW H → Nat
  | (.string bytes, d) => bytes.length + uptoBulk d + 1
  | (_, d) => uptoBulk d + 1
 end
def uptoSmall : (H : Type) → List (DataW H) → Bool := fun _ ds => decide (uptoBulkAll ds ≤ 1048576)
def OpenSpec.upto (s : _root_.Go.ChangeSpec) : _root_.Go.OpenSpec := { _root_.Go.OpenSpec.ofChange s with cond := some uptoSmall }

/-- 'broadsidelaw12.GateChecks', WHERE WHAT IT READS IS OF BULK AT MOST 1048576: true; the input reads as it did. -/
def gateChecksUptoRow : OpenClaim := { program := "ytmelpikncdnloaa", sum := "0697f3c1cd964476d18377b5894bda17e3c48de4bec9d9255f527e1b0821e421", func := "broadside/broadsidelaw12.GateChecks", spec := "gateChecks", apart := false, narrowed := true }
def GateChecksUptoSaid : Prop := gateChecksUptoRow.holds Try.pinned (OpenSpec.upto gateChecksSpec)

/-- 'broadsidelaw12.GateLess', WHERE WHAT IT READS IS OF BULK AT MOST 1048576: true; the input reads as it did. -/
def gateLessUptoRow : OpenClaim := { program := "ytmelpikncdnloaa", sum := "0697f3c1cd964476d18377b5894bda17e3c48de4bec9d9255f527e1b0821e421", func := "broadside/broadsidelaw12.GateLess", spec := "gateLess", apart := false, narrowed := true }
def GateLessUptoSaid : Prop := gateLessUptoRow.holds Try.pinned (OpenSpec.upto gateLessSpec)

/-- 'broadsidelaw12.GateFlags', WHERE WHAT IT READS IS OF BULK AT MOST 1048576: true; the input reads as it did. -/
def gateFlagsUptoRow : OpenClaim := { program := "ytmelpikncdnloaa", sum := "0697f3c1cd964476d18377b5894bda17e3c48de4bec9d9255f527e1b0821e421", func := "broadside/broadsidelaw12.GateFlags", spec := "gateFlags", apart := false, narrowed := true }
def GateFlagsUptoSaid : Prop := gateFlagsUptoRow.holds Try.pinned (OpenSpec.upto gateFlagsSpec)

end Rows
end Go.Proofs.Ytmelpikncdnloaa
