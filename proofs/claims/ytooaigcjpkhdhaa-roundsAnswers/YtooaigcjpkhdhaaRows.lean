/-
  No cell of these rows narrows 'for every input' (looked for: loops, veiled, ifaces, maps, wideKeys, modest, calm, conditions, laid).
  DERIVED. THE GIVEN ROWS OF THIS SEAT. 6 by the template 'for every input the law returns true; each argument reads behind the call as it read before'; 0 by the template 'total and deterministic' (their statements: YtooaigcjpkhdhaaTotals.lean).
  GIVEN WITH THE SEED: the statements are not yours to turn. If you find one false, say at which input.
  Laid BY PROGRAM, IN A SANDBOX (cutbox-rows.mjs): the forced cells as the released guide's own fill.sh prints them over the translation 4893fcee5148f98f… (all of the seat's roots in one cut). By AI agents, Wed Nov 11 2026. No macro, syntax, notation, axiom, sorry.
-/
import Derived.Test.YtooaigcjpkhdhaaChecked
import GoSem.Claim
import GoSem.ClaimJoined
import GoSem.ClaimMapViews
import Derived.JoinedTies
import Derived.KernelRfl
namespace Go.Proofs.Ytooaigcjpkhdhaa
/- THE CELL 'sum', in the pinned program and in every row, IS THE sha256 OF THE DUMP (.gsa) THAT YtooaigcjpkhdhaaProg.lean LOADS. Nothing in Lean hashes anything: it is a label: what it is worth is what the hold of that sum in a sandbox is worth. -/
noncomputable def Try.pinned : Pinned := { name := "ytooaigcjpkhdhaa", sum := "4893fcee5148f98f1c986346ea38ab65493405bbbd3acfe3c6a470f174d97c22", checked := Try.checked }
namespace Rows
def none {H : Type} : Left H := { results := [], args := [] }

/-- 'pacelinelaw.RoundsChecks': WHATEVER THE INPUT: true; the input reads as it did. -/
def roundsChecksSpec : ChangeSpec := { name := "roundsChecks", fn := fun _ => fun
  | [d] => { results := [.lit (.bool true)], args := [d] }
  | _ => none }
def roundsChecksRow : OpenClaim := { program := "ytooaigcjpkhdhaa", sum := "4893fcee5148f98f1c986346ea38ab65493405bbbd3acfe3c6a470f174d97c22", func := "paceline/pacelinelaw.RoundsChecks", spec := "roundsChecks", unfollowed := true, recurses := true, apart := false }
def RoundsChecksSaid : Prop := roundsChecksRow.holds Try.pinned (OpenSpec.ofChange roundsChecksSpec)

/-- ITS FALSE NEIGHBOUR: 'it returns false'. Refute it at one input. -/
def roundsChecksWrong : ChangeSpec := { name := "roundsChecks", fn := fun _ => fun
  | [d] => { results := [.lit (.bool false)], args := [d] }
  | _ => none }
def RoundsChecksWrongFalsely : Prop := roundsChecksRow.holds Try.pinned (OpenSpec.ofChange roundsChecksWrong)

/-- 'pacelinelaw.RoundsBegins': WHATEVER THE INPUT: true; the input reads as it did. -/
def roundsBeginsSpec : ChangeSpec := { name := "roundsBegins", fn := fun _ => fun
  | [d] => { results := [.lit (.bool true)], args := [d] }
  | _ => none }
def roundsBeginsRow : OpenClaim := { program := "ytooaigcjpkhdhaa", sum := "4893fcee5148f98f1c986346ea38ab65493405bbbd3acfe3c6a470f174d97c22", func := "paceline/pacelinelaw.RoundsBegins", spec := "roundsBegins", unfollowed := true, recurses := true, apart := false }
def RoundsBeginsSaid : Prop := roundsBeginsRow.holds Try.pinned (OpenSpec.ofChange roundsBeginsSpec)

/-- ITS FALSE NEIGHBOUR: 'it returns false'. Refute it at one input. -/
def roundsBeginsWrong : ChangeSpec := { name := "roundsBegins", fn := fun _ => fun
  | [d] => { results := [.lit (.bool false)], args := [d] }
  | _ => none }
def RoundsBeginsWrongFalsely : Prop := roundsBeginsRow.holds Try.pinned (OpenSpec.ofChange roundsBeginsWrong)

/-- 'pacelinelaw.RoundsNexts': WHATEVER THE INPUT: true; the input reads as it did. -/
def roundsNextsSpec : ChangeSpec := { name := "roundsNexts", fn := fun _ => fun
  | [d1, d2] => { results := [.lit (.bool true)], args := [d1, d2] }
  | _ => none }
def roundsNextsRow : OpenClaim := { program := "ytooaigcjpkhdhaa", sum := "4893fcee5148f98f1c986346ea38ab65493405bbbd3acfe3c6a470f174d97c22", func := "paceline/pacelinelaw.RoundsNexts", spec := "roundsNexts", unfollowed := true, recurses := true, apart := false }
def RoundsNextsSaid : Prop := roundsNextsRow.holds Try.pinned (OpenSpec.ofChange roundsNextsSpec)

/-- ITS FALSE NEIGHBOUR: 'it returns false'. Refute it at one input. -/
def roundsNextsWrong : ChangeSpec := { name := "roundsNexts", fn := fun _ => fun
  | [d1, d2] => { results := [.lit (.bool false)], args := [d1, d2] }
  | _ => none }
def RoundsNextsWrongFalsely : Prop := roundsNextsRow.holds Try.pinned (OpenSpec.ofChange roundsNextsWrong)

/-- 'pacelinelaw.RoundsRuns': WHATEVER THE INPUT: true; the input reads as it did. -/
def roundsRunsSpec : ChangeSpec := { name := "roundsRuns", fn := fun _ => fun
  | [d] => { results := [.lit (.bool true)], args := [d] }
  | _ => none }
def roundsRunsRow : OpenClaim := { program := "ytooaigcjpkhdhaa", sum := "4893fcee5148f98f1c986346ea38ab65493405bbbd3acfe3c6a470f174d97c22", func := "paceline/pacelinelaw.RoundsRuns", spec := "roundsRuns", unfollowed := true, recurses := true, apart := false }
def RoundsRunsSaid : Prop := roundsRunsRow.holds Try.pinned (OpenSpec.ofChange roundsRunsSpec)

/-- ITS FALSE NEIGHBOUR: 'it returns false'. Refute it at one input. -/
def roundsRunsWrong : ChangeSpec := { name := "roundsRuns", fn := fun _ => fun
  | [d] => { results := [.lit (.bool false)], args := [d] }
  | _ => none }
def RoundsRunsWrongFalsely : Prop := roundsRunsRow.holds Try.pinned (OpenSpec.ofChange roundsRunsWrong)

/-- 'pacelinelaw.RoundsAnswers': WHATEVER THE INPUT: true; the input reads as it did. -/
def roundsAnswersSpec : ChangeSpec := { name := "roundsAnswers", fn := fun _ => fun
  | [d1, d2] => { results := [.lit (.bool true)], args := [d1, d2] }
  | _ => none }
def roundsAnswersRow : OpenClaim := { program := "ytooaigcjpkhdhaa", sum := "4893fcee5148f98f1c986346ea38ab65493405bbbd3acfe3c6a470f174d97c22", func := "paceline/pacelinelaw.RoundsAnswers", spec := "roundsAnswers", unfollowed := true, recurses := true, apart := false }
def RoundsAnswersSaid : Prop := roundsAnswersRow.holds Try.pinned (OpenSpec.ofChange roundsAnswersSpec)

/-- ITS FALSE NEIGHBOUR: 'it returns false'. Refute it at one input. -/
def roundsAnswersWrong : ChangeSpec := { name := "roundsAnswers", fn := fun _ => fun
  | [d1, d2] => { results := [.lit (.bool false)], args := [d1, d2] }
  | _ => none }
def RoundsAnswersWrongFalsely : Prop := roundsAnswersRow.holds Try.pinned (OpenSpec.ofChange roundsAnswersWrong)

/-- 'pacelinekeep.RoundsDist': WHATEVER THE INPUT: true; the input reads as it did. -/
def roundsDistSpec : ChangeSpec := { name := "roundsDist", fn := fun _ => fun
  | [d1, d2, d3] => { results := [.lit (.bool true)], args := [d1, d2, d3] }
  | _ => none }
def roundsDistRow : OpenClaim := { program := "ytooaigcjpkhdhaa", sum := "4893fcee5148f98f1c986346ea38ab65493405bbbd3acfe3c6a470f174d97c22", func := "paceline/pacelinekeep.RoundsDist", spec := "roundsDist", unfollowed := true, recurses := true, apart := false }
def RoundsDistSaid : Prop := roundsDistRow.holds Try.pinned (OpenSpec.ofChange roundsDistSpec)

/-- ITS FALSE NEIGHBOUR: 'it returns false'. Refute it at one input. -/
def roundsDistWrong : ChangeSpec := { name := "roundsDist", fn := fun _ => fun
  | [d1, d2, d3] => { results := [.lit (.bool false)], args := [d1, d2, d3] }
  | _ => none }
def RoundsDistWrongFalsely : Prop := roundsDistRow.holds Try.pinned (OpenSpec.ofChange roundsDistWrong)

/- THE SECOND FORM. 'bulk': how many values and letters a reading holds, each counted each time it is reached (what is shared counts as often as it is met; a slice's spare places count too). A statement '..UptoSaid' is the law's where the arguments, and the package variables that the reading takes, are together of bulk at most 1048576: NARROWER than '..Said'. Prove '..Said' where nothing that the law and all that it calls make is longer than what came in: it says more and counts as full. Else prove '..UptoSaid'. A law counts once. -/
mutual
def uptoBulk {H : Type} : DataW H → Nat
  | .lit (.string bytes) => bytes.length + 1
  | .lit _ => 1
  | .nil => 1
  | .ptr d => uptoBulk d + 1
  | .slice elems spare => uptoBulkAll elems + uptoBulkAll spare + 1
  | .agg parts => uptoBulkAll parts + 1
  | .iface _ d => uptoBulk d + 1
  | .map entries => uptoBulkEntries entries + 1
  | .held _ => 1
def uptoBulkAll {H : Type} : List (DataW H) → Nat
  | [] => 0
  | d :: r => uptoBulk d + uptoBulkAll r
def uptoBulkEntries {H : Type} : List (Lit × DataW H) → Nat
  | [] => 0
  | x :: r => uptoBulkEntry x + uptoBulkEntries r
def uptoBulkEntry {H : Type} : Lit × DataW H → Nat
  | (.string bytes, d) => bytes.length + uptoBulk d + 1
  | (_, d) => uptoBulk d + 1
 end
def uptoSmall : (H : Type) → List (DataW H) → Bool := fun _ ds => decide (uptoBulkAll ds ≤ 1048576)
def OpenSpec.upto (s : _root_.Go.ChangeSpec) : _root_.Go.OpenSpec := { _root_.Go.OpenSpec.ofChange s with cond := some uptoSmall }

/-- 'pacelinelaw.RoundsChecks', WHERE WHAT IT READS IS OF BULK AT MOST 1048576: true; the input reads as it did. -/
def roundsChecksUptoRow : OpenClaim := { program := "ytooaigcjpkhdhaa", sum := "4893fcee5148f98f1c986346ea38ab65493405bbbd3acfe3c6a470f174d97c22", func := "paceline/pacelinelaw.RoundsChecks", spec := "roundsChecks", unfollowed := true, recurses := true, apart := false, narrowed := true }
def RoundsChecksUptoSaid : Prop := roundsChecksUptoRow.holds Try.pinned (OpenSpec.upto roundsChecksSpec)

/-- 'pacelinelaw.RoundsBegins', WHERE WHAT IT READS IS OF BULK AT MOST 1048576: true; the input reads as it did. -/
def roundsBeginsUptoRow : OpenClaim := { program := "ytooaigcjpkhdhaa", sum := "4893fcee5148f98f1c986346ea38ab65493405bbbd3acfe3c6a470f174d97c22", func := "paceline/pacelinelaw.RoundsBegins", spec := "roundsBegins", unfollowed := true, recurses := true, apart := false, narrowed := true }
def RoundsBeginsUptoSaid : Prop := roundsBeginsUptoRow.holds Try.pinned (OpenSpec.upto roundsBeginsSpec)

/-- 'pacelinelaw.RoundsNexts', WHERE WHAT IT READS IS OF BULK AT MOST 1048576: true; the input reads as it did. -/
def roundsNextsUptoRow : OpenClaim := { program := "ytooaigcjpkhdhaa", sum := "4893fcee5148f98f1c986346ea38ab65493405bbbd3acfe3c6a470f174d97c22", func := "paceline/pacelinelaw.RoundsNexts", spec := "roundsNexts", unfollowed := true, recurses := true, apart := false, narrowed := true }
def RoundsNextsUptoSaid : Prop := roundsNextsUptoRow.holds Try.pinned (OpenSpec.upto roundsNextsSpec)

/-- 'pacelinelaw.RoundsRuns', WHERE WHAT IT READS IS OF BULK AT MOST 1048576: true; the input reads as it did. -/
def roundsRunsUptoRow : OpenClaim := { program := "ytooaigcjpkhdhaa", sum := "4893fcee5148f98f1c986346ea38ab65493405bbbd3acfe3c6a470f174d97c22", func := "paceline/pacelinelaw.RoundsRuns", spec := "roundsRuns", unfollowed := true, recurses := true, apart := false, narrowed := true }
def RoundsRunsUptoSaid : Prop := roundsRunsUptoRow.holds Try.pinned (OpenSpec.upto roundsRunsSpec)

/-- 'pacelinelaw.RoundsAnswers', WHERE WHAT IT READS IS OF BULK AT MOST 1048576: true; the input reads as it did. -/
def roundsAnswersUptoRow : OpenClaim := { program := "ytooaigcjpkhdhaa", sum := "4893fcee5148f98f1c986346ea38ab65493405bbbd3acfe3c6a470f174d97c22", func := "paceline/pacelinelaw.RoundsAnswers", spec := "roundsAnswers", unfollowed := true, recurses := true, apart := false, narrowed := true }
def RoundsAnswersUptoSaid : Prop := roundsAnswersUptoRow.holds Try.pinned (OpenSpec.upto roundsAnswersSpec)

/-- 'pacelinekeep.RoundsDist', WHERE WHAT IT READS IS OF BULK AT MOST 1048576: true; the input reads as it did. -/
def roundsDistUptoRow : OpenClaim := { program := "ytooaigcjpkhdhaa", sum := "4893fcee5148f98f1c986346ea38ab65493405bbbd3acfe3c6a470f174d97c22", func := "paceline/pacelinekeep.RoundsDist", spec := "roundsDist", unfollowed := true, recurses := true, apart := false, narrowed := true }
def RoundsDistUptoSaid : Prop := roundsDistUptoRow.holds Try.pinned (OpenSpec.upto roundsDistSpec)

end Rows
end Go.Proofs.Ytooaigcjpkhdhaa
