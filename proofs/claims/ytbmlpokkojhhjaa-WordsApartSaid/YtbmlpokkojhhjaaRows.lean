/-
  No cell of these rows narrows 'for every input' (looked for: loops, veiled, ifaces, maps, wideKeys, modest, calm, conditions, laid).
  DERIVED. THE GIVEN ROWS OF THIS SEAT. 4 by the template 'for every input the law returns true; each argument reads behind the call as it read before'; 0 by the template 'total and deterministic' (their statements: YtbmlpokkojhhjaaTotals.lean).
  GIVEN WITH THE SEED: the statements are not yours to turn. If you find one false, say at which input.
  Laid BY PROGRAM, IN A SANDBOX (cutbox-rows.mjs): the forced cells as the released guide's own fill.sh prints them over the translation 9d1c1698622067a9… (all of the seat's roots in one cut). By AI agents, Wed Nov 11 2026. No macro, syntax, notation, axiom, sorry.
-/
import Derived.Test.YtbmlpokkojhhjaaChecked
import GoSem.Claim
import GoSem.ClaimJoined
import GoSem.ClaimMapViews
import Derived.JoinedTies
import Derived.KernelRfl
namespace Go.Proofs.Ytbmlpokkojhhjaa
/- THE CELL 'sum', in the pinned program and in every row, IS THE sha256 OF THE DUMP (.gsa) THAT YtbmlpokkojhhjaaProg.lean LOADS. Nothing in Lean hashes anything: it is a label: what it is worth is what the hold of that sum in a sandbox is worth. -/
noncomputable def Try.pinned : Pinned := { name := "ytbmlpokkojhhjaa", sum := "9d1c1698622067a9a159fd3e0753b975cb2de8f380f5c5403283ba000c6a259f", checked := Try.checked }
namespace Rows
def none {H : Type} : Left H := { results := [], args := [] }

/-- 'broadsidelaw15.WordsCommands': WHATEVER THE INPUT: true; the input reads as it did. -/
def wordsCommandsSpec : ChangeSpec := { name := "wordsCommands", fn := fun _ => fun
  | [d] => { results := [.lit (.bool true)], args := [d] }
  | _ => none }
def wordsCommandsRow : OpenClaim := { program := "ytbmlpokkojhhjaa", sum := "9d1c1698622067a9a159fd3e0753b975cb2de8f380f5c5403283ba000c6a259f", func := "broadside/broadsidelaw15.WordsCommands", spec := "wordsCommands", unfollowed := true, recurses := true, apart := false }
def WordsCommandsSaid : Prop := wordsCommandsRow.holds Try.pinned (OpenSpec.ofChange wordsCommandsSpec)

/-- ITS FALSE NEIGHBOUR: 'it returns false'. Refute it at one input. -/
def wordsCommandsWrong : ChangeSpec := { name := "wordsCommands", fn := fun _ => fun
  | [d] => { results := [.lit (.bool false)], args := [d] }
  | _ => none }
def WordsCommandsWrongFalsely : Prop := wordsCommandsRow.holds Try.pinned (OpenSpec.ofChange wordsCommandsWrong)

/-- 'broadsidelaw15.WordsReplies': WHATEVER THE INPUT: true; the input reads as it did. -/
def wordsRepliesSpec : ChangeSpec := { name := "wordsReplies", fn := fun _ => fun
  | [d1, d2] => { results := [.lit (.bool true)], args := [d1, d2] }
  | _ => none }
def wordsRepliesRow : OpenClaim := { program := "ytbmlpokkojhhjaa", sum := "9d1c1698622067a9a159fd3e0753b975cb2de8f380f5c5403283ba000c6a259f", func := "broadside/broadsidelaw15.WordsReplies", spec := "wordsReplies", unfollowed := true, recurses := true, apart := false }
def WordsRepliesSaid : Prop := wordsRepliesRow.holds Try.pinned (OpenSpec.ofChange wordsRepliesSpec)

/-- ITS FALSE NEIGHBOUR: 'it returns false'. Refute it at one input. -/
def wordsRepliesWrong : ChangeSpec := { name := "wordsReplies", fn := fun _ => fun
  | [d1, d2] => { results := [.lit (.bool false)], args := [d1, d2] }
  | _ => none }
def WordsRepliesWrongFalsely : Prop := wordsRepliesRow.holds Try.pinned (OpenSpec.ofChange wordsRepliesWrong)

/-- 'broadsidelaw15.WordsOnly': WHATEVER THE INPUT: true; the input reads as it did. -/
def wordsOnlySpec : ChangeSpec := { name := "wordsOnly", fn := fun _ => fun
  | [d1, d2] => { results := [.lit (.bool true)], args := [d1, d2] }
  | _ => none }
def wordsOnlyRow : OpenClaim := { program := "ytbmlpokkojhhjaa", sum := "9d1c1698622067a9a159fd3e0753b975cb2de8f380f5c5403283ba000c6a259f", func := "broadside/broadsidelaw15.WordsOnly", spec := "wordsOnly", unfollowed := true, recurses := true, apart := false }
def WordsOnlySaid : Prop := wordsOnlyRow.holds Try.pinned (OpenSpec.ofChange wordsOnlySpec)

/-- ITS FALSE NEIGHBOUR: 'it returns false'. Refute it at one input. -/
def wordsOnlyWrong : ChangeSpec := { name := "wordsOnly", fn := fun _ => fun
  | [d1, d2] => { results := [.lit (.bool false)], args := [d1, d2] }
  | _ => none }
def WordsOnlyWrongFalsely : Prop := wordsOnlyRow.holds Try.pinned (OpenSpec.ofChange wordsOnlyWrong)

/-- 'broadsidelaw15.WordsApart': WHATEVER THE INPUT: true; the input reads as it did. -/
def wordsApartSpec : ChangeSpec := { name := "wordsApart", fn := fun _ => fun
  | [d1, d2, d3, d4] => { results := [.lit (.bool true)], args := [d1, d2, d3, d4] }
  | _ => none }
def wordsApartRow : OpenClaim := { program := "ytbmlpokkojhhjaa", sum := "9d1c1698622067a9a159fd3e0753b975cb2de8f380f5c5403283ba000c6a259f", func := "broadside/broadsidelaw15.WordsApart", spec := "wordsApart", unfollowed := true, recurses := true, apart := false }
def WordsApartSaid : Prop := wordsApartRow.holds Try.pinned (OpenSpec.ofChange wordsApartSpec)

/-- ITS FALSE NEIGHBOUR: 'it returns false'. Refute it at one input. -/
def wordsApartWrong : ChangeSpec := { name := "wordsApart", fn := fun _ => fun
  | [d1, d2, d3, d4] => { results := [.lit (.bool false)], args := [d1, d2, d3, d4] }
  | _ => none }
def WordsApartWrongFalsely : Prop := wordsApartRow.holds Try.pinned (OpenSpec.ofChange wordsApartWrong)

/- THE SECOND FORM. 'bulk': how many values and letters a reading holds, each counted each time it is reached (what is shared counts as often as it is met; a slice's spare places count too). A statement '..UptoSaid' is the law's where the arguments, and the package variables that the reading takes, are together of bulk at most 1048576: NARROWER than '..Said'. Prove '..Said' where nothing that the law and all that it calls make is longer than what came in: it says more and counts as full. Else prove '..UptoSaid'. A law counts once. -/
mutual
def uptoBulk {H : Type} : DataW H → Nat
  | .lit (.string bytes) => bytes.length + 1
  | .lit _ => 1
  | .nil => 1
  | .ptr d => uptoBulk d + 1
  | .slice elems spare => uptoBulkAll elems + uptoBulkAll spare + 1
  | .agg parts => uptoBulkAll parts + 1
  | .iface _ d => uptoBulk d + 1
  | .map entries => uptoBulkEntries entries + 1
  | .held _ => 1
def uptoBulkAll {H : Type} : List (DataW H) → Nat
  | [] => 0
  | d :: r => uptoBulk d + uptoBulkAll r
def uptoBulkEntries {H : Type} : List (Lit × DataW H) → Nat
  | [] => 0
  | x :: r => uptoBulkEntry x + uptoBulkEntries r
def uptoBulkEntry {H : Type} : Lit × DataW H → Nat
  | (.string bytes, d) => bytes.length + uptoBulk d + 1
  | (_, d) => uptoBulk d + 1
 end
def uptoSmall : (H : Type) → List (DataW H) → Bool := fun _ ds => decide (uptoBulkAll ds ≤ 1048576)
def OpenSpec.upto (s : _root_.Go.ChangeSpec) : _root_.Go.OpenSpec := { _root_.Go.OpenSpec.ofChange s with cond := some uptoSmall }

/-- 'broadsidelaw15.WordsCommands', WHERE WHAT IT READS IS OF BULK AT MOST 1048576: true; the input reads as it did. -/
def wordsCommandsUptoRow : OpenClaim := { program := "ytbmlpokkojhhjaa", sum := "9d1c1698622067a9a159fd3e0753b975cb2de8f380f5c5403283ba000c6a259f", func := "broadside/broadsidelaw15.WordsCommands", spec := "wordsCommands", unfollowed := true, recurses := true, apart := false, narrowed := true }
def WordsCommandsUptoSaid : Prop := wordsCommandsUptoRow.holds Try.pinned (OpenSpec.upto wordsCommandsSpec)

/-- 'broadsidelaw15.WordsReplies', WHERE WHAT IT READS IS OF BULK AT MOST 1048576: true; the input reads as it did. -/
def wordsRepliesUptoRow : OpenClaim := { program := "ytbmlpokkojhhjaa", sum := "9d1c1698622067a9a159fd3e0753b975cb2de8f380f5c5403283ba000c6a259f", func := "broadside/broadsidelaw15.WordsReplies", spec := "wordsReplies", unfollowed := true, recurses := true, apart := false, narrowed := true }
def WordsRepliesUptoSaid : Prop := wordsRepliesUptoRow.holds Try.pinned (OpenSpec.upto wordsRepliesSpec)

/-- 'broadsidelaw15.WordsOnly', WHERE WHAT IT READS IS OF BULK AT MOST 1048576: true; the input reads as it did. -/
def wordsOnlyUptoRow : OpenClaim := { program := "ytbmlpokkojhhjaa", sum := "9d1c1698622067a9a159fd3e0753b975cb2de8f380f5c5403283ba000c6a259f", func := "broadside/broadsidelaw15.WordsOnly", spec := "wordsOnly", unfollowed := true, recurses := true, apart := false, narrowed := true }
def WordsOnlyUptoSaid : Prop := wordsOnlyUptoRow.holds Try.pinned (OpenSpec.upto wordsOnlySpec)

/-- 'broadsidelaw15.WordsApart', WHERE WHAT IT READS IS OF BULK AT MOST 1048576: true; the input reads as it did. -/
def wordsApartUptoRow : OpenClaim := { program := "ytbmlpokkojhhjaa", sum := "9d1c1698622067a9a159fd3e0753b975cb2de8f380f5c5403283ba000c6a259f", func := "broadside/broadsidelaw15.WordsApart", spec := "wordsApart", unfollowed := true, recurses := true, apart := false, narrowed := true }
def WordsApartUptoSaid : Prop := wordsApartUptoRow.holds Try.pinned (OpenSpec.upto wordsApartSpec)

end Rows
end Go.Proofs.Ytbmlpokkojhhjaa
