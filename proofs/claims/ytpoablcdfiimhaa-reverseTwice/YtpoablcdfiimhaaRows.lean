/-
  No cell of these rows narrows 'for every input' (looked for: loops, veiled, ifaces, maps, wideKeys, modest, calm, conditions, laid).
  DERIVED. THE GIVEN ROWS OF THIS SEAT. 6 by the template 'for every input the law returns true; each argument reads behind the call as it read before'; 0 by the template 'total and deterministic' (their statements: YtpoablcdfiimhaaTotals.lean).
  GIVEN WITH THE SEED: the statements are not yours to turn. If you find one false, say at which input.
  Laid BY PROGRAM, IN A SANDBOX (cutbox-rows.mjs): the forced cells as the released guide's own fill.sh prints them over the translation 52fcb184bb2348a0… (all of the seat's roots in one cut). By AI agents, Wed Nov 11 2026. No macro, syntax, notation, axiom, sorry.
-/
import Derived.Test.YtpoablcdfiimhaaChecked
import GoSem.Claim
import GoSem.ClaimJoined
import GoSem.ClaimMapViews
import Derived.JoinedTies
import Derived.KernelRfl
namespace Go.Proofs.Ytpoablcdfiimhaa
/- THE CELL 'sum', in the pinned program and in every row, IS THE sha256 OF THE DUMP (.gsa) THAT YtpoablcdfiimhaaProg.lean LOADS. Nothing in Lean hashes anything: it is a label: what it is worth is what the hold of that sum in a sandbox is worth. -/
noncomputable def Try.pinned : Pinned := { name := "ytpoablcdfiimhaa", sum := "52fcb184bb2348a09e935c2b88d4368998974772cce95b76c740f6ff8bc26d3c", checked := Try.checked }
namespace Rows
def none {H : Type} : Left H := { results := [], args := [] }

/-- 'pacelinelaw.GraphChecks': WHATEVER THE INPUT: true; the input reads as it did. -/
def graphChecksSpec : ChangeSpec := { name := "graphChecks", fn := fun _ => fun
  | [d] => { results := [.lit (.bool true)], args := [d] }
  | _ => none }
def graphChecksRow : OpenClaim := { program := "ytpoablcdfiimhaa", sum := "52fcb184bb2348a09e935c2b88d4368998974772cce95b76c740f6ff8bc26d3c", func := "paceline/pacelinelaw.GraphChecks", spec := "graphChecks", unfollowed := true, recurses := true, apart := false }
def GraphChecksSaid : Prop := graphChecksRow.holds Try.pinned (OpenSpec.ofChange graphChecksSpec)

/-- ITS FALSE NEIGHBOUR: 'it returns false'. Refute it at one input. -/
def graphChecksWrong : ChangeSpec := { name := "graphChecks", fn := fun _ => fun
  | [d] => { results := [.lit (.bool false)], args := [d] }
  | _ => none }
def GraphChecksWrongFalsely : Prop := graphChecksRow.holds Try.pinned (OpenSpec.ofChange graphChecksWrong)

/-- 'pacelinelaw.GraphSorts': WHATEVER THE INPUT: true; the input reads as it did. -/
def graphSortsSpec : ChangeSpec := { name := "graphSorts", fn := fun _ => fun
  | [d] => { results := [.lit (.bool true)], args := [d] }
  | _ => none }
def graphSortsRow : OpenClaim := { program := "ytpoablcdfiimhaa", sum := "52fcb184bb2348a09e935c2b88d4368998974772cce95b76c740f6ff8bc26d3c", func := "paceline/pacelinelaw.GraphSorts", spec := "graphSorts", unfollowed := true, recurses := true, apart := false }
def GraphSortsSaid : Prop := graphSortsRow.holds Try.pinned (OpenSpec.ofChange graphSortsSpec)

/-- ITS FALSE NEIGHBOUR: 'it returns false'. Refute it at one input. -/
def graphSortsWrong : ChangeSpec := { name := "graphSorts", fn := fun _ => fun
  | [d] => { results := [.lit (.bool false)], args := [d] }
  | _ => none }
def GraphSortsWrongFalsely : Prop := graphSortsRow.holds Try.pinned (OpenSpec.ofChange graphSortsWrong)

/-- 'pacelinelaw.GraphReverses': WHATEVER THE INPUT: true; the input reads as it did. -/
def graphReversesSpec : ChangeSpec := { name := "graphReverses", fn := fun _ => fun
  | [d] => { results := [.lit (.bool true)], args := [d] }
  | _ => none }
def graphReversesRow : OpenClaim := { program := "ytpoablcdfiimhaa", sum := "52fcb184bb2348a09e935c2b88d4368998974772cce95b76c740f6ff8bc26d3c", func := "paceline/pacelinelaw.GraphReverses", spec := "graphReverses", unfollowed := true, recurses := true, apart := false }
def GraphReversesSaid : Prop := graphReversesRow.holds Try.pinned (OpenSpec.ofChange graphReversesSpec)

/-- ITS FALSE NEIGHBOUR: 'it returns false'. Refute it at one input. -/
def graphReversesWrong : ChangeSpec := { name := "graphReverses", fn := fun _ => fun
  | [d] => { results := [.lit (.bool false)], args := [d] }
  | _ => none }
def GraphReversesWrongFalsely : Prop := graphReversesRow.holds Try.pinned (OpenSpec.ofChange graphReversesWrong)

/-- 'pacelinelaw.GraphHops': WHATEVER THE INPUT: true; the input reads as it did. -/
def graphHopsSpec : ChangeSpec := { name := "graphHops", fn := fun _ => fun
  | [d1, d2] => { results := [.lit (.bool true)], args := [d1, d2] }
  | _ => none }
def graphHopsRow : OpenClaim := { program := "ytpoablcdfiimhaa", sum := "52fcb184bb2348a09e935c2b88d4368998974772cce95b76c740f6ff8bc26d3c", func := "paceline/pacelinelaw.GraphHops", spec := "graphHops", unfollowed := true, recurses := true, apart := false }
def GraphHopsSaid : Prop := graphHopsRow.holds Try.pinned (OpenSpec.ofChange graphHopsSpec)

/-- ITS FALSE NEIGHBOUR: 'it returns false'. Refute it at one input. -/
def graphHopsWrong : ChangeSpec := { name := "graphHops", fn := fun _ => fun
  | [d1, d2] => { results := [.lit (.bool false)], args := [d1, d2] }
  | _ => none }
def GraphHopsWrongFalsely : Prop := graphHopsRow.holds Try.pinned (OpenSpec.ofChange graphHopsWrong)

/-- 'pacelinelaw.GraphDegrees': WHATEVER THE INPUT: true; the input reads as it did. -/
def graphDegreesSpec : ChangeSpec := { name := "graphDegrees", fn := fun _ => fun
  | [d] => { results := [.lit (.bool true)], args := [d] }
  | _ => none }
def graphDegreesRow : OpenClaim := { program := "ytpoablcdfiimhaa", sum := "52fcb184bb2348a09e935c2b88d4368998974772cce95b76c740f6ff8bc26d3c", func := "paceline/pacelinelaw.GraphDegrees", spec := "graphDegrees", unfollowed := true, recurses := true, apart := false }
def GraphDegreesSaid : Prop := graphDegreesRow.holds Try.pinned (OpenSpec.ofChange graphDegreesSpec)

/-- ITS FALSE NEIGHBOUR: 'it returns false'. Refute it at one input. -/
def graphDegreesWrong : ChangeSpec := { name := "graphDegrees", fn := fun _ => fun
  | [d] => { results := [.lit (.bool false)], args := [d] }
  | _ => none }
def GraphDegreesWrongFalsely : Prop := graphDegreesRow.holds Try.pinned (OpenSpec.ofChange graphDegreesWrong)

/-- 'pacelinekeep.ReverseTwice': WHATEVER THE INPUT: true; the input reads as it did. -/
def reverseTwiceSpec : ChangeSpec := { name := "reverseTwice", fn := fun _ => fun
  | [d1, d2] => { results := [.lit (.bool true)], args := [d1, d2] }
  | _ => none }
def reverseTwiceRow : OpenClaim := { program := "ytpoablcdfiimhaa", sum := "52fcb184bb2348a09e935c2b88d4368998974772cce95b76c740f6ff8bc26d3c", func := "paceline/pacelinekeep.ReverseTwice", spec := "reverseTwice", unfollowed := true, recurses := true, apart := false }
def ReverseTwiceSaid : Prop := reverseTwiceRow.holds Try.pinned (OpenSpec.ofChange reverseTwiceSpec)

/-- ITS FALSE NEIGHBOUR: 'it returns false'. Refute it at one input. -/
def reverseTwiceWrong : ChangeSpec := { name := "reverseTwice", fn := fun _ => fun
  | [d1, d2] => { results := [.lit (.bool false)], args := [d1, d2] }
  | _ => none }
def ReverseTwiceWrongFalsely : Prop := reverseTwiceRow.holds Try.pinned (OpenSpec.ofChange reverseTwiceWrong)

/- THE SECOND FORM. 'bulk': how many values and letters a reading holds, each counted each time it is reached (what is shared counts as often as it is met; a slice's spare places count too). A statement '..UptoSaid' is the law's where the arguments, and the package variables that the reading takes, are together of bulk at most 1048576: NARROWER than '..Said'. Prove '..Said' where nothing that the law and all that it calls make is longer than what came in: it says more and counts as full. Else prove '..UptoSaid'. A law counts once. -/
mutual
def uptoBulk {H : Type} : DataW H → Nat
  | .lit (.string bytes) => bytes.length + 1
  | .lit _ => 1
  | .nil => 1
  | .ptr d => uptoBulk d + 1
  | .slice elems spare => uptoBulkAll elems + uptoBulkAll spare + 1
  | .agg parts => uptoBulkAll parts + 1
  | .iface _ d => uptoBulk d + 1
  | .map entries => uptoBulkEntries entries + 1
  | .held _ => 1
def uptoBulkAll {H : Type} : List (DataW H) → Nat
  | [] => 0
  | d :: r => uptoBulk d + uptoBulkAll r
def uptoBulkEntries {H : Type} : List (Lit × DataW H) → Nat
  | [] => 0
  | x :: r => uptoBulkEntry x + uptoBulkEntries r
def uptoBulkEntry {H : Type} : Lit × DataW H → Nat
  | (.string bytes, d) => bytes.length + uptoBulk d + 1
  | (_, d) => uptoBulk d + 1
 end
def uptoSmall : (H : Type) → List (DataW H) → Bool := fun _ ds => decide (uptoBulkAll ds ≤ 1048576)
def OpenSpec.upto (s : _root_.Go.ChangeSpec) : _root_.Go.OpenSpec := { _root_.Go.OpenSpec.ofChange s with cond := some uptoSmall }

/-- 'pacelinelaw.GraphChecks', WHERE WHAT IT READS IS OF BULK AT MOST 1048576: true; the input reads as it did. -/
def graphChecksUptoRow : OpenClaim := { program := "ytpoablcdfiimhaa", sum := "52fcb184bb2348a09e935c2b88d4368998974772cce95b76c740f6ff8bc26d3c", func := "paceline/pacelinelaw.GraphChecks", spec := "graphChecks", unfollowed := true, recurses := true, apart := false, narrowed := true }
def GraphChecksUptoSaid : Prop := graphChecksUptoRow.holds Try.pinned (OpenSpec.upto graphChecksSpec)

/-- 'pacelinelaw.GraphSorts', WHERE WHAT IT READS IS OF BULK AT MOST 1048576: true; the input reads as it did. -/
def graphSortsUptoRow : OpenClaim := { program := "ytpoablcdfiimhaa", sum := "52fcb184bb2348a09e935c2b88d4368998974772cce95b76c740f6ff8bc26d3c", func := "paceline/pacelinelaw.GraphSorts", spec := "graphSorts", unfollowed := true, recurses := true, apart := false, narrowed := true }
def GraphSortsUptoSaid : Prop := graphSortsUptoRow.holds Try.pinned (OpenSpec.upto graphSortsSpec)

/-- 'pacelinelaw.GraphReverses', WHERE WHAT IT READS IS OF BULK AT MOST 1048576: true; the input reads as it did. -/
def graphReversesUptoRow : OpenClaim := { program := "ytpoablcdfiimhaa", sum := "52fcb184bb2348a09e935c2b88d4368998974772cce95b76c740f6ff8bc26d3c", func := "paceline/pacelinelaw.GraphReverses", spec := "graphReverses", unfollowed := true, recurses := true, apart := false, narrowed := true }
def GraphReversesUptoSaid : Prop := graphReversesUptoRow.holds Try.pinned (OpenSpec.upto graphReversesSpec)

/-- 'pacelinelaw.GraphHops', WHERE WHAT IT READS IS OF BULK AT MOST 1048576: true; the input reads as it did. -/
def graphHopsUptoRow : OpenClaim := { program := "ytpoablcdfiimhaa", sum := "52fcb184bb2348a09e935c2b88d4368998974772cce95b76c740f6ff8bc26d3c", func := "paceline/pacelinelaw.GraphHops", spec := "graphHops", unfollowed := true, recurses := true, apart := false, narrowed := true }
def GraphHopsUptoSaid : Prop := graphHopsUptoRow.holds Try.pinned (OpenSpec.upto graphHopsSpec)

/-- 'pacelinelaw.GraphDegrees', WHERE WHAT IT READS IS OF BULK AT MOST 1048576: true; the input reads as it did. -/
def graphDegreesUptoRow : OpenClaim := { program := "ytpoablcdfiimhaa", sum := "52fcb184bb2348a09e935c2b88d4368998974772cce95b76c740f6ff8bc26d3c", func := "paceline/pacelinelaw.GraphDegrees", spec := "graphDegrees", unfollowed := true, recurses := true, apart := false, narrowed := true }
def GraphDegreesUptoSaid : Prop := graphDegreesUptoRow.holds Try.pinned (OpenSpec.upto graphDegreesSpec)

/-- 'pacelinekeep.ReverseTwice', WHERE WHAT IT READS IS OF BULK AT MOST 1048576: true; the input reads as it did. -/
def reverseTwiceUptoRow : OpenClaim := { program := "ytpoablcdfiimhaa", sum := "52fcb184bb2348a09e935c2b88d4368998974772cce95b76c740f6ff8bc26d3c", func := "paceline/pacelinekeep.ReverseTwice", spec := "reverseTwice", unfollowed := true, recurses := true, apart := false, narrowed := true }
def ReverseTwiceUptoSaid : Prop := reverseTwiceUptoRow.holds Try.pinned (OpenSpec.upto reverseTwiceSpec)

end Rows
end Go.Proofs.Ytpoablcdfiimhaa
