/-
  No cell of these rows narrows 'for every input' (looked for: loops, veiled, ifaces, maps, wideKeys, modest, calm, conditions, laid).
  DERIVED. THE GIVEN ROWS OF THIS SEAT. 5 by the template 'for every input the law returns true; each argument reads behind the call as it read before'; 0 by the template 'total and deterministic' (their statements: YtbmmokgmpgahnaaTotals.lean).
  GIVEN WITH THE SEED: the statements are not yours to turn. If you find one false, say at which input.
  Laid BY PROGRAM, IN A SANDBOX (cutbox-rows.mjs): the forced cells as the released guide's own fill.sh prints them over the translation a89c28bcb354d2f1… (all of the seat's roots in one cut). By AI agents, Wed Nov 11 2026. No macro, syntax, notation, axiom, sorry.
-/
import Derived.Test.YtbmmokgmpgahnaaChecked
import GoSem.Claim
import GoSem.ClaimJoined
import GoSem.ClaimMapViews
import Derived.JoinedTies
import Derived.KernelRfl
namespace Go.Proofs.Ytbmmokgmpgahnaa
/- THE CELL 'sum', in the pinned program and in every row, IS THE sha256 OF THE DUMP (.gsa) THAT YtbmmokgmpgahnaaProg.lean LOADS. Nothing in Lean hashes anything: it is a label: what it is worth is what the hold of that sum in a sandbox is worth. -/
noncomputable def Try.pinned : Pinned := { name := "ytbmmokgmpgahnaa", sum := "a89c28bcb354d2f192c143ce61dc0679c32550a47de3169ace7a484a0a5c9e97", checked := Try.checked }
namespace Rows
def none {H : Type} : Left H := { results := [], args := [] }

/-- 'broadsidelaw09.LedgerPlays': WHATEVER THE INPUT: true; the input reads as it did. -/
def ledgerPlaysSpec : ChangeSpec := { name := "ledgerPlays", fn := fun _ => fun
  | [d] => { results := [.lit (.bool true)], args := [d] }
  | _ => none }
def ledgerPlaysRow : OpenClaim := { program := "ytbmmokgmpgahnaa", sum := "a89c28bcb354d2f192c143ce61dc0679c32550a47de3169ace7a484a0a5c9e97", func := "broadside/broadsidelaw09.LedgerPlays", spec := "ledgerPlays", inPlace := ["maps.clone"], unfollowed := true, recurses := true, plainKeys := false, apart := false }
def LedgerPlaysSaid : Prop := ledgerPlaysRow.holds Try.pinned (OpenSpec.ofChange ledgerPlaysSpec)

/-- ITS FALSE NEIGHBOUR: 'it returns false'. Refute it at one input. -/
def ledgerPlaysWrong : ChangeSpec := { name := "ledgerPlays", fn := fun _ => fun
  | [d] => { results := [.lit (.bool false)], args := [d] }
  | _ => none }
def LedgerPlaysWrongFalsely : Prop := ledgerPlaysRow.holds Try.pinned (OpenSpec.ofChange ledgerPlaysWrong)

/-- 'broadsidelaw09.LedgerFrom': WHATEVER THE INPUT: true; the input reads as it did. -/
def ledgerFromSpec : ChangeSpec := { name := "ledgerFrom", fn := fun _ => fun
  | [d1, d2, d3] => { results := [.lit (.bool true)], args := [d1, d2, d3] }
  | _ => none }
def ledgerFromRow : OpenClaim := { program := "ytbmmokgmpgahnaa", sum := "a89c28bcb354d2f192c143ce61dc0679c32550a47de3169ace7a484a0a5c9e97", func := "broadside/broadsidelaw09.LedgerFrom", spec := "ledgerFrom", inPlace := ["math/bits.Add64"], unfollowed := true, recurses := true, plainKeys := false, apart := false }
def LedgerFromSaid : Prop := ledgerFromRow.holds Try.pinned (OpenSpec.ofChange ledgerFromSpec)

/-- ITS FALSE NEIGHBOUR: 'it returns false'. Refute it at one input. -/
def ledgerFromWrong : ChangeSpec := { name := "ledgerFrom", fn := fun _ => fun
  | [d1, d2, d3] => { results := [.lit (.bool false)], args := [d1, d2, d3] }
  | _ => none }
def LedgerFromWrongFalsely : Prop := ledgerFromRow.holds Try.pinned (OpenSpec.ofChange ledgerFromWrong)

/-- 'broadsidelaw09.LedgerZero': WHATEVER THE INPUT: true; the input reads as it did. -/
def ledgerZeroSpec : ChangeSpec := { name := "ledgerZero", fn := fun _ => fun
  | [d] => { results := [.lit (.bool true)], args := [d] }
  | _ => none }
def ledgerZeroRow : OpenClaim := { program := "ytbmmokgmpgahnaa", sum := "a89c28bcb354d2f192c143ce61dc0679c32550a47de3169ace7a484a0a5c9e97", func := "broadside/broadsidelaw09.LedgerZero", spec := "ledgerZero", inPlace := ["maps.clone"], unfollowed := true, recurses := true, plainKeys := false, apart := false }
def LedgerZeroSaid : Prop := ledgerZeroRow.holds Try.pinned (OpenSpec.ofChange ledgerZeroSpec)

/-- ITS FALSE NEIGHBOUR: 'it returns false'. Refute it at one input. -/
def ledgerZeroWrong : ChangeSpec := { name := "ledgerZero", fn := fun _ => fun
  | [d] => { results := [.lit (.bool false)], args := [d] }
  | _ => none }
def LedgerZeroWrongFalsely : Prop := ledgerZeroRow.holds Try.pinned (OpenSpec.ofChange ledgerZeroWrong)

/-- 'broadsidelaw09.LedgerApart': WHATEVER THE INPUT: true; the input reads as it did. -/
def ledgerApartSpec : ChangeSpec := { name := "ledgerApart", fn := fun _ => fun
  | [d1, d2, d3, d4, d5, d6] => { results := [.lit (.bool true)], args := [d1, d2, d3, d4, d5, d6] }
  | _ => none }
def ledgerApartRow : OpenClaim := { program := "ytbmmokgmpgahnaa", sum := "a89c28bcb354d2f192c143ce61dc0679c32550a47de3169ace7a484a0a5c9e97", func := "broadside/broadsidelaw09.LedgerApart", spec := "ledgerApart", unfollowed := true, recurses := true, plainKeys := false, apart := false }
def LedgerApartSaid : Prop := ledgerApartRow.holds Try.pinned (OpenSpec.ofChange ledgerApartSpec)

/-- ITS FALSE NEIGHBOUR: 'it returns false'. Refute it at one input. -/
def ledgerApartWrong : ChangeSpec := { name := "ledgerApart", fn := fun _ => fun
  | [d1, d2, d3, d4, d5, d6] => { results := [.lit (.bool false)], args := [d1, d2, d3, d4, d5, d6] }
  | _ => none }
def LedgerApartWrongFalsely : Prop := ledgerApartRow.holds Try.pinned (OpenSpec.ofChange ledgerApartWrong)

/-- 'broadsidelaw09.LedgerPath': WHATEVER THE INPUT: true; the input reads as it did. -/
def ledgerPathSpec : ChangeSpec := { name := "ledgerPath", fn := fun _ => fun
  | [d1, d2, d3, d4] => { results := [.lit (.bool true)], args := [d1, d2, d3, d4] }
  | _ => none }
def ledgerPathRow : OpenClaim := { program := "ytbmmokgmpgahnaa", sum := "a89c28bcb354d2f192c143ce61dc0679c32550a47de3169ace7a484a0a5c9e97", func := "broadside/broadsidelaw09.LedgerPath", spec := "ledgerPath", inPlace := ["maps.clone"], unfollowed := true, recurses := true, plainKeys := false, apart := false }
def LedgerPathSaid : Prop := ledgerPathRow.holds Try.pinned (OpenSpec.ofChange ledgerPathSpec)

/-- ITS FALSE NEIGHBOUR: 'it returns false'. Refute it at one input. -/
def ledgerPathWrong : ChangeSpec := { name := "ledgerPath", fn := fun _ => fun
  | [d1, d2, d3, d4] => { results := [.lit (.bool false)], args := [d1, d2, d3, d4] }
  | _ => none }
def LedgerPathWrongFalsely : Prop := ledgerPathRow.holds Try.pinned (OpenSpec.ofChange ledgerPathWrong)

/- THE SECOND FORM. 'bulk': how many values and letters a reading holds, each counted each time it is reached (what is shared counts as often as it is met; a slice's spare places count too). A statement '..UptoSaid' is the law's where the arguments, and the package variables that the reading takes, are together of bulk at most 1048576: NARROWER than '..Said'. Prove '..Said' where nothing that the law and all that it calls make is longer than what came in: it says more and counts as full. Else prove '..UptoSaid'. A law counts once. -/
mutual
def uptoBulk {H : Type} : DataW H → Nat
  | .lit (.string bytes) => bytes.length + 1
  | .lit _ => 1
  | .nil => 1
  | .ptr d => uptoBulk d + 1
  | .slice elems spare => uptoBulkAll elems + uptoBulkAll spare + 1
  | .agg parts => uptoBulkAll parts + 1
  | .iface _ d => uptoBulk d + 1
  | .map entries => uptoBulkEntries entries + 1
  | .held _ => 1
def uptoBulkAll {H : Type} : List (DataW H) → Nat
  | [] => 0
  | d :: r => uptoBulk d + uptoBulkAll r
def uptoBulkEntries {H : Type} : List (Lit × DataW H) → Nat
  | [] => 0
  | x :: r => uptoBulkEntry x + uptoBulkEntries r
def uptoBulkEntry {H : Type} : Lit × DataW H → Nat
  | (.string bytes, d) => bytes.length + uptoBulk d + 1
  | (_, d) => uptoBulk d + 1
 end
def uptoSmall : (H : Type) → List (DataW H) → Bool := fun _ ds => decide (uptoBulkAll ds ≤ 1048576)
def OpenSpec.upto (s : _root_.Go.ChangeSpec) : _root_.Go.OpenSpec := { _root_.Go.OpenSpec.ofChange s with cond := some uptoSmall }

/-- 'broadsidelaw09.LedgerPlays', WHERE WHAT IT READS IS OF BULK AT MOST 1048576: true; the input reads as it did. -/
def ledgerPlaysUptoRow : OpenClaim := { program := "ytbmmokgmpgahnaa", sum := "a89c28bcb354d2f192c143ce61dc0679c32550a47de3169ace7a484a0a5c9e97", func := "broadside/broadsidelaw09.LedgerPlays", spec := "ledgerPlays", inPlace := ["maps.clone"], unfollowed := true, recurses := true, plainKeys := false, apart := false, narrowed := true }
def LedgerPlaysUptoSaid : Prop := ledgerPlaysUptoRow.holds Try.pinned (OpenSpec.upto ledgerPlaysSpec)

/-- 'broadsidelaw09.LedgerFrom', WHERE WHAT IT READS IS OF BULK AT MOST 1048576: true; the input reads as it did. -/
def ledgerFromUptoRow : OpenClaim := { program := "ytbmmokgmpgahnaa", sum := "a89c28bcb354d2f192c143ce61dc0679c32550a47de3169ace7a484a0a5c9e97", func := "broadside/broadsidelaw09.LedgerFrom", spec := "ledgerFrom", inPlace := ["math/bits.Add64"], unfollowed := true, recurses := true, plainKeys := false, apart := false, narrowed := true }
def LedgerFromUptoSaid : Prop := ledgerFromUptoRow.holds Try.pinned (OpenSpec.upto ledgerFromSpec)

/-- 'broadsidelaw09.LedgerZero', WHERE WHAT IT READS IS OF BULK AT MOST 1048576: true; the input reads as it did. -/
def ledgerZeroUptoRow : OpenClaim := { program := "ytbmmokgmpgahnaa", sum := "a89c28bcb354d2f192c143ce61dc0679c32550a47de3169ace7a484a0a5c9e97", func := "broadside/broadsidelaw09.LedgerZero", spec := "ledgerZero", inPlace := ["maps.clone"], unfollowed := true, recurses := true, plainKeys := false, apart := false, narrowed := true }
def LedgerZeroUptoSaid : Prop := ledgerZeroUptoRow.holds Try.pinned (OpenSpec.upto ledgerZeroSpec)

/-- 'broadsidelaw09.LedgerApart', WHERE WHAT IT READS IS OF BULK AT MOST 1048576: true; the input reads as it did. -/
def ledgerApartUptoRow : OpenClaim := { program := "ytbmmokgmpgahnaa", sum := "a89c28bcb354d2f192c143ce61dc0679c32550a47de3169ace7a484a0a5c9e97", func := "broadside/broadsidelaw09.LedgerApart", spec := "ledgerApart", unfollowed := true, recurses := true, plainKeys := false, apart := false, narrowed := true }
def LedgerApartUptoSaid : Prop := ledgerApartUptoRow.holds Try.pinned (OpenSpec.upto ledgerApartSpec)

/-- 'broadsidelaw09.LedgerPath', WHERE WHAT IT READS IS OF BULK AT MOST 1048576: true; the input reads as it did. -/
def ledgerPathUptoRow : OpenClaim := { program := "ytbmmokgmpgahnaa", sum := "a89c28bcb354d2f192c143ce61dc0679c32550a47de3169ace7a484a0a5c9e97", func := "broadside/broadsidelaw09.LedgerPath", spec := "ledgerPath", inPlace := ["maps.clone"], unfollowed := true, recurses := true, plainKeys := false, apart := false, narrowed := true }
def LedgerPathUptoSaid : Prop := ledgerPathUptoRow.holds Try.pinned (OpenSpec.upto ledgerPathSpec)

end Rows
end Go.Proofs.Ytbmmokgmpgahnaa
