/-
  No cell of these rows narrows 'for every input' (looked for: loops, veiled, ifaces, maps, wideKeys, modest, calm, conditions, laid).
  DERIVED. THE GIVEN ROWS OF THIS SEAT. 6 by the template 'for every input the law returns true; each argument reads behind the call as it read before'; 0 by the template 'total and deterministic' (their statements: YtokbfgopemgbcaaTotals.lean).
  GIVEN WITH THE SEED: the statements are not yours to turn. If you find one false, say at which input.
  Laid BY PROGRAM, IN A SANDBOX (cutbox-rows.mjs): the forced cells as the released guide's own fill.sh prints them over the translation 1f1e552313d1c5c3… (all of the seat's roots in one cut). By AI agents, Wed Nov 11 2026. No macro, syntax, notation, axiom, sorry.
-/
import Derived.Test.YtokbfgopemgbcaaChecked
import GoSem.Claim
import GoSem.ClaimJoined
import GoSem.ClaimMapViews
import Derived.JoinedTies
import Derived.KernelRfl
namespace Go.Proofs.Ytokbfgopemgbcaa
/- THE CELL 'sum', in the pinned program and in every row, IS THE sha256 OF THE DUMP (.gsa) THAT YtokbfgopemgbcaaProg.lean LOADS. Nothing in Lean hashes anything: it is a label: what it is worth is what the hold of that sum in a sandbox is worth. -/
noncomputable def Try.pinned : Pinned := { name := "ytokbfgopemgbcaa", sum := "1f1e552313d1c5c357ce5dcce672debebe4c6cfbb9164b1625f8e340cf5dc90b", checked := Try.checked }
namespace Rows
def none {H : Type} : Left H := { results := [], args := [] }

/-- 'pacelinelaw.ProgWakes': WHATEVER THE INPUT: true; the input reads as it did. -/
def progWakesSpec : ChangeSpec := { name := "progWakes", fn := fun _ => fun
  | [d1, d2, d3, d4, d5, d6, d7] => { results := [.lit (.bool true)], args := [d1, d2, d3, d4, d5, d6, d7] }
  | _ => none }
def progWakesRow : OpenClaim := { program := "ytokbfgopemgbcaa", sum := "1f1e552313d1c5c357ce5dcce672debebe4c6cfbb9164b1625f8e340cf5dc90b", func := "paceline/pacelinelaw.ProgWakes", spec := "progWakes", unfollowed := true, recurses := true, apart := false }
def ProgWakesSaid : Prop := progWakesRow.holds Try.pinned (OpenSpec.ofChange progWakesSpec)

/-- ITS FALSE NEIGHBOUR: 'it returns false'. Refute it at one input. -/
def progWakesWrong : ChangeSpec := { name := "progWakes", fn := fun _ => fun
  | [d1, d2, d3, d4, d5, d6, d7] => { results := [.lit (.bool false)], args := [d1, d2, d3, d4, d5, d6, d7] }
  | _ => none }
def ProgWakesWrongFalsely : Prop := progWakesRow.holds Try.pinned (OpenSpec.ofChange progWakesWrong)

/-- 'pacelinelaw.ProgSays': WHATEVER THE INPUT: true; the input reads as it did. -/
def progSaysSpec : ChangeSpec := { name := "progSays", fn := fun _ => fun
  | [d1, d2, d3, d4] => { results := [.lit (.bool true)], args := [d1, d2, d3, d4] }
  | _ => none }
def progSaysRow : OpenClaim := { program := "ytokbfgopemgbcaa", sum := "1f1e552313d1c5c357ce5dcce672debebe4c6cfbb9164b1625f8e340cf5dc90b", func := "paceline/pacelinelaw.ProgSays", spec := "progSays", unfollowed := true, recurses := true, apart := false }
def ProgSaysSaid : Prop := progSaysRow.holds Try.pinned (OpenSpec.ofChange progSaysSpec)

/-- ITS FALSE NEIGHBOUR: 'it returns false'. Refute it at one input. -/
def progSaysWrong : ChangeSpec := { name := "progSays", fn := fun _ => fun
  | [d1, d2, d3, d4] => { results := [.lit (.bool false)], args := [d1, d2, d3, d4] }
  | _ => none }
def ProgSaysWrongFalsely : Prop := progSaysRow.holds Try.pinned (OpenSpec.ofChange progSaysWrong)

/-- 'pacelinelaw.ProgWays': WHATEVER THE INPUT: true; the input reads as it did. -/
def progWaysSpec : ChangeSpec := { name := "progWays", fn := fun _ => fun
  | [d1, d2] => { results := [.lit (.bool true)], args := [d1, d2] }
  | _ => none }
def progWaysRow : OpenClaim := { program := "ytokbfgopemgbcaa", sum := "1f1e552313d1c5c357ce5dcce672debebe4c6cfbb9164b1625f8e340cf5dc90b", func := "paceline/pacelinelaw.ProgWays", spec := "progWays", unfollowed := true, recurses := true, apart := false }
def ProgWaysSaid : Prop := progWaysRow.holds Try.pinned (OpenSpec.ofChange progWaysSpec)

/-- ITS FALSE NEIGHBOUR: 'it returns false'. Refute it at one input. -/
def progWaysWrong : ChangeSpec := { name := "progWays", fn := fun _ => fun
  | [d1, d2] => { results := [.lit (.bool false)], args := [d1, d2] }
  | _ => none }
def ProgWaysWrongFalsely : Prop := progWaysRow.holds Try.pinned (OpenSpec.ofChange progWaysWrong)

/-- 'pacelinekeep.ProgFalls': WHATEVER THE INPUT: true; the input reads as it did. -/
def progFallsSpec : ChangeSpec := { name := "progFalls", fn := fun _ => fun
  | [d1, d2, d3, d4] => { results := [.lit (.bool true)], args := [d1, d2, d3, d4] }
  | _ => none }
def progFallsRow : OpenClaim := { program := "ytokbfgopemgbcaa", sum := "1f1e552313d1c5c357ce5dcce672debebe4c6cfbb9164b1625f8e340cf5dc90b", func := "paceline/pacelinekeep.ProgFalls", spec := "progFalls", unfollowed := true, recurses := true, apart := false }
def ProgFallsSaid : Prop := progFallsRow.holds Try.pinned (OpenSpec.ofChange progFallsSpec)

/-- ITS FALSE NEIGHBOUR: 'it returns false'. Refute it at one input. -/
def progFallsWrong : ChangeSpec := { name := "progFalls", fn := fun _ => fun
  | [d1, d2, d3, d4] => { results := [.lit (.bool false)], args := [d1, d2, d3, d4] }
  | _ => none }
def ProgFallsWrongFalsely : Prop := progFallsRow.holds Try.pinned (OpenSpec.ofChange progFallsWrong)

/-- 'pacelinekeep.ProgLeast': WHATEVER THE INPUT: true; the input reads as it did. -/
def progLeastSpec : ChangeSpec := { name := "progLeast", fn := fun _ => fun
  | [d1, d2, d3, d4] => { results := [.lit (.bool true)], args := [d1, d2, d3, d4] }
  | _ => none }
def progLeastRow : OpenClaim := { program := "ytokbfgopemgbcaa", sum := "1f1e552313d1c5c357ce5dcce672debebe4c6cfbb9164b1625f8e340cf5dc90b", func := "paceline/pacelinekeep.ProgLeast", spec := "progLeast", unfollowed := true, recurses := true, apart := false }
def ProgLeastSaid : Prop := progLeastRow.holds Try.pinned (OpenSpec.ofChange progLeastSpec)

/-- ITS FALSE NEIGHBOUR: 'it returns false'. Refute it at one input. -/
def progLeastWrong : ChangeSpec := { name := "progLeast", fn := fun _ => fun
  | [d1, d2, d3, d4] => { results := [.lit (.bool false)], args := [d1, d2, d3, d4] }
  | _ => none }
def ProgLeastWrongFalsely : Prop := progLeastRow.holds Try.pinned (OpenSpec.ofChange progLeastWrong)

/-- 'pacelinekeep.ProgLabel': WHATEVER THE INPUT: true; the input reads as it did. -/
def progLabelSpec : ChangeSpec := { name := "progLabel", fn := fun _ => fun
  | [d1, d2, d3, d4] => { results := [.lit (.bool true)], args := [d1, d2, d3, d4] }
  | _ => none }
def progLabelRow : OpenClaim := { program := "ytokbfgopemgbcaa", sum := "1f1e552313d1c5c357ce5dcce672debebe4c6cfbb9164b1625f8e340cf5dc90b", func := "paceline/pacelinekeep.ProgLabel", spec := "progLabel", unfollowed := true, recurses := true, apart := false }
def ProgLabelSaid : Prop := progLabelRow.holds Try.pinned (OpenSpec.ofChange progLabelSpec)

/-- ITS FALSE NEIGHBOUR: 'it returns false'. Refute it at one input. -/
def progLabelWrong : ChangeSpec := { name := "progLabel", fn := fun _ => fun
  | [d1, d2, d3, d4] => { results := [.lit (.bool false)], args := [d1, d2, d3, d4] }
  | _ => none }
def ProgLabelWrongFalsely : Prop := progLabelRow.holds Try.pinned (OpenSpec.ofChange progLabelWrong)

/- THE SECOND FORM. 'bulk': how many values and letters a reading holds, each counted each time it is reached (what is shared counts as often as it is met; a slice's spare places count too). A statement '..UptoSaid' is the law's where the arguments, and the package variables that the reading takes, are together of bulk at most 1048576: NARROWER than '..Said'. Prove '..Said' where nothing that the law and all that it calls make is longer than what came in: it says more and counts as full. Else prove '..UptoSaid'. A law counts once. -/
mutual
def uptoBulk {H : Type} : DataW H → Nat
  | .lit (.string bytes) => bytes.length + 1
  | .lit _ => 1
  | .nil => 1
  | .ptr d => uptoBulk d + 1
  | .slice elems spare => uptoBulkAll elems + uptoBulkAll spare + 1
  | .agg parts => uptoBulkAll parts + 1
  | .iface _ d => uptoBulk d + 1
  | .map entries => uptoBulkEntries entries + 1
  | .held _ => 1
def uptoBulkAll {H : Type} : List (DataW H) → Nat
  | [] => 0
  | d :: r => uptoBulk d + uptoBulkAll r
def uptoBulkEntries {H : Type} : List (Lit × DataW H) → Nat
  | [] => 0
  | x :: r => uptoBulkEntry x + uptoBulkEntries r
def uptoBulkEntry {H : Type} : Lit × DataW H → Nat
  | (.string bytes, d) => bytes.length + uptoBulk d + 1
  | (_, d) => uptoBulk d + 1
 end
def uptoSmall : (H : Type) → List (DataW H) → Bool := fun _ ds => decide (uptoBulkAll ds ≤ 1048576)
def OpenSpec.upto (s : _root_.Go.ChangeSpec) : _root_.Go.OpenSpec := { _root_.Go.OpenSpec.ofChange s with cond := some uptoSmall }

/-- 'pacelinelaw.ProgWakes', WHERE WHAT IT READS IS OF BULK AT MOST 1048576: true; the input reads as it did. -/
def progWakesUptoRow : OpenClaim := { program := "ytokbfgopemgbcaa", sum := "1f1e552313d1c5c357ce5dcce672debebe4c6cfbb9164b1625f8e340cf5dc90b", func := "paceline/pacelinelaw.ProgWakes", spec := "progWakes", unfollowed := true, recurses := true, apart := false, narrowed := true }
def ProgWakesUptoSaid : Prop := progWakesUptoRow.holds Try.pinned (OpenSpec.upto progWakesSpec)

/-- 'pacelinelaw.ProgSays', WHERE WHAT IT READS IS OF BULK AT MOST 1048576: true; the input reads as it did. -/
def progSaysUptoRow : OpenClaim := { program := "ytokbfgopemgbcaa", sum := "1f1e552313d1c5c357ce5dcce672debebe4c6cfbb9164b1625f8e340cf5dc90b", func := "paceline/pacelinelaw.ProgSays", spec := "progSays", unfollowed := true, recurses := true, apart := false, narrowed := true }
def ProgSaysUptoSaid : Prop := progSaysUptoRow.holds Try.pinned (OpenSpec.upto progSaysSpec)

/-- 'pacelinelaw.ProgWays', WHERE WHAT IT READS IS OF BULK AT MOST 1048576: true; the input reads as it did. -/
def progWaysUptoRow : OpenClaim := { program := "ytokbfgopemgbcaa", sum := "1f1e552313d1c5c357ce5dcce672debebe4c6cfbb9164b1625f8e340cf5dc90b", func := "paceline/pacelinelaw.ProgWays", spec := "progWays", unfollowed := true, recurses := true, apart := false, narrowed := true }
def ProgWaysUptoSaid : Prop := progWaysUptoRow.holds Try.pinned (OpenSpec.upto progWaysSpec)

/-- 'pacelinekeep.ProgFalls', WHERE WHAT IT READS IS OF BULK AT MOST 1048576: true; the input reads as it did. -/
def progFallsUptoRow : OpenClaim := { program := "ytokbfgopemgbcaa", sum := "1f1e552313d1c5c357ce5dcce672debebe4c6cfbb9164b1625f8e340cf5dc90b", func := "paceline/pacelinekeep.ProgFalls", spec := "progFalls", unfollowed := true, recurses := true, apart := false, narrowed := true }
def ProgFallsUptoSaid : Prop := progFallsUptoRow.holds Try.pinned (OpenSpec.upto progFallsSpec)

/-- 'pacelinekeep.ProgLeast', WHERE WHAT IT READS IS OF BULK AT MOST 1048576: true; the input reads as it did. -/
def progLeastUptoRow : OpenClaim := { program := "ytokbfgopemgbcaa", sum := "1f1e552313d1c5c357ce5dcce672debebe4c6cfbb9164b1625f8e340cf5dc90b", func := "paceline/pacelinekeep.ProgLeast", spec := "progLeast", unfollowed := true, recurses := true, apart := false, narrowed := true }
def ProgLeastUptoSaid : Prop := progLeastUptoRow.holds Try.pinned (OpenSpec.upto progLeastSpec)

/-- 'pacelinekeep.ProgLabel', WHERE WHAT IT READS IS OF BULK AT MOST 1048576: true; the input reads as it did. -/
def progLabelUptoRow : OpenClaim := { program := "ytokbfgopemgbcaa", sum := "1f1e552313d1c5c357ce5dcce672debebe4c6cfbb9164b1625f8e340cf5dc90b", func := "paceline/pacelinekeep.ProgLabel", spec := "progLabel", unfollowed := true, recurses := true, apart := false, narrowed := true }
def ProgLabelUptoSaid : Prop := progLabelUptoRow.holds Try.pinned (OpenSpec.upto progLabelSpec)

end Rows
end Go.Proofs.Ytokbfgopemgbcaa
