/-
  No cell of these rows narrows 'for every input' (looked for: loops, veiled, ifaces, maps, wideKeys, modest, calm, conditions, laid).
  DERIVED. THE GIVEN ROWS OF THIS SEAT. 6 by the template 'for every input the law returns true; each argument reads behind the call as it read before'; 0 by the template 'total and deterministic' (their statements: YtankibadiomkkaaTotals.lean).
  GIVEN WITH THE SEED: the statements are not yours to turn. If you find one false, say at which input.
  Laid BY PROGRAM, IN A SANDBOX (cutbox-rows.mjs): the forced cells as the released guide's own fill.sh prints them over the translation 59b34b02e15eac80… (all of the seat's roots in one cut). By AI agents, Wed Nov 11 2026. No macro, syntax, notation, axiom, sorry.
-/
import Derived.Test.YtankibadiomkkaaChecked
import GoSem.Claim
import GoSem.ClaimJoined
import GoSem.ClaimMapViews
import Derived.JoinedTies
import Derived.KernelRfl
namespace Go.Proofs.Ytankibadiomkkaa
/- THE CELL 'sum', in the pinned program and in every row, IS THE sha256 OF THE DUMP (.gsa) THAT YtankibadiomkkaaProg.lean LOADS. Nothing in Lean hashes anything: it is a label: what it is worth is what the hold of that sum in a sandbox is worth. -/
noncomputable def Try.pinned : Pinned := { name := "ytankibadiomkkaa", sum := "59b34b02e15eac80ea411d5c2c20763ea56b2291a99d300bff26391131b35b39", checked := Try.checked }
namespace Rows
def none {H : Type} : Left H := { results := [], args := [] }

/-- 'pacelinelaw.PathsDists': WHATEVER THE INPUT: true; the input reads as it did. -/
def pathsDistsSpec : ChangeSpec := { name := "pathsDists", fn := fun _ => fun
  | [d1, d2] => { results := [.lit (.bool true)], args := [d1, d2] }
  | _ => none }
def pathsDistsRow : OpenClaim := { program := "ytankibadiomkkaa", sum := "59b34b02e15eac80ea411d5c2c20763ea56b2291a99d300bff26391131b35b39", func := "paceline/pacelinelaw.PathsDists", spec := "pathsDists", unfollowed := true, recurses := true, apart := false }
def PathsDistsSaid : Prop := pathsDistsRow.holds Try.pinned (OpenSpec.ofChange pathsDistsSpec)

/-- ITS FALSE NEIGHBOUR: 'it returns false'. Refute it at one input. -/
def pathsDistsWrong : ChangeSpec := { name := "pathsDists", fn := fun _ => fun
  | [d1, d2] => { results := [.lit (.bool false)], args := [d1, d2] }
  | _ => none }
def PathsDistsWrongFalsely : Prop := pathsDistsRow.holds Try.pinned (OpenSpec.ofChange pathsDistsWrong)

/-- 'pacelinelaw.PathsWeaks': WHATEVER THE INPUT: true; the input reads as it did. -/
def pathsWeaksSpec : ChangeSpec := { name := "pathsWeaks", fn := fun _ => fun
  | [d] => { results := [.lit (.bool true)], args := [d] }
  | _ => none }
def pathsWeaksRow : OpenClaim := { program := "ytankibadiomkkaa", sum := "59b34b02e15eac80ea411d5c2c20763ea56b2291a99d300bff26391131b35b39", func := "paceline/pacelinelaw.PathsWeaks", spec := "pathsWeaks", unfollowed := true, recurses := true, apart := false }
def PathsWeaksSaid : Prop := pathsWeaksRow.holds Try.pinned (OpenSpec.ofChange pathsWeaksSpec)

/-- ITS FALSE NEIGHBOUR: 'it returns false'. Refute it at one input. -/
def pathsWeaksWrong : ChangeSpec := { name := "pathsWeaks", fn := fun _ => fun
  | [d] => { results := [.lit (.bool false)], args := [d] }
  | _ => none }
def PathsWeaksWrongFalsely : Prop := pathsWeaksRow.holds Try.pinned (OpenSpec.ofChange pathsWeaksWrong)

/-- 'pacelinelaw.PathsReaches': WHATEVER THE INPUT: true; the input reads as it did. -/
def pathsReachesSpec : ChangeSpec := { name := "pathsReaches", fn := fun _ => fun
  | [d1, d2] => { results := [.lit (.bool true)], args := [d1, d2] }
  | _ => none }
def pathsReachesRow : OpenClaim := { program := "ytankibadiomkkaa", sum := "59b34b02e15eac80ea411d5c2c20763ea56b2291a99d300bff26391131b35b39", func := "paceline/pacelinelaw.PathsReaches", spec := "pathsReaches", unfollowed := true, recurses := true, apart := false }
def PathsReachesSaid : Prop := pathsReachesRow.holds Try.pinned (OpenSpec.ofChange pathsReachesSpec)

/-- ITS FALSE NEIGHBOUR: 'it returns false'. Refute it at one input. -/
def pathsReachesWrong : ChangeSpec := { name := "pathsReaches", fn := fun _ => fun
  | [d1, d2] => { results := [.lit (.bool false)], args := [d1, d2] }
  | _ => none }
def PathsReachesWrongFalsely : Prop := pathsReachesRow.holds Try.pinned (OpenSpec.ofChange pathsReachesWrong)

/-- 'pacelinelaw.PathsStrongs': WHATEVER THE INPUT: true; the input reads as it did. -/
def pathsStrongsSpec : ChangeSpec := { name := "pathsStrongs", fn := fun _ => fun
  | [d] => { results := [.lit (.bool true)], args := [d] }
  | _ => none }
def pathsStrongsRow : OpenClaim := { program := "ytankibadiomkkaa", sum := "59b34b02e15eac80ea411d5c2c20763ea56b2291a99d300bff26391131b35b39", func := "paceline/pacelinelaw.PathsStrongs", spec := "pathsStrongs", unfollowed := true, recurses := true, apart := false }
def PathsStrongsSaid : Prop := pathsStrongsRow.holds Try.pinned (OpenSpec.ofChange pathsStrongsSpec)

/-- ITS FALSE NEIGHBOUR: 'it returns false'. Refute it at one input. -/
def pathsStrongsWrong : ChangeSpec := { name := "pathsStrongs", fn := fun _ => fun
  | [d] => { results := [.lit (.bool false)], args := [d] }
  | _ => none }
def PathsStrongsWrongFalsely : Prop := pathsStrongsRow.holds Try.pinned (OpenSpec.ofChange pathsStrongsWrong)

/-- 'pacelinekeep.DistTight': WHATEVER THE INPUT: true; the input reads as it did. -/
def distTightSpec : ChangeSpec := { name := "distTight", fn := fun _ => fun
  | [d1, d2, d3] => { results := [.lit (.bool true)], args := [d1, d2, d3] }
  | _ => none }
def distTightRow : OpenClaim := { program := "ytankibadiomkkaa", sum := "59b34b02e15eac80ea411d5c2c20763ea56b2291a99d300bff26391131b35b39", func := "paceline/pacelinekeep.DistTight", spec := "distTight", unfollowed := true, recurses := true, apart := false }
def DistTightSaid : Prop := distTightRow.holds Try.pinned (OpenSpec.ofChange distTightSpec)

/-- ITS FALSE NEIGHBOUR: 'it returns false'. Refute it at one input. -/
def distTightWrong : ChangeSpec := { name := "distTight", fn := fun _ => fun
  | [d1, d2, d3] => { results := [.lit (.bool false)], args := [d1, d2, d3] }
  | _ => none }
def DistTightWrongFalsely : Prop := distTightRow.holds Try.pinned (OpenSpec.ofChange distTightWrong)

/-- 'pacelinekeep.WeakJoined': WHATEVER THE INPUT: true; the input reads as it did. -/
def weakJoinedSpec : ChangeSpec := { name := "weakJoined", fn := fun _ => fun
  | [d1, d2] => { results := [.lit (.bool true)], args := [d1, d2] }
  | _ => none }
def weakJoinedRow : OpenClaim := { program := "ytankibadiomkkaa", sum := "59b34b02e15eac80ea411d5c2c20763ea56b2291a99d300bff26391131b35b39", func := "paceline/pacelinekeep.WeakJoined", spec := "weakJoined", unfollowed := true, recurses := true, apart := false }
def WeakJoinedSaid : Prop := weakJoinedRow.holds Try.pinned (OpenSpec.ofChange weakJoinedSpec)

/-- ITS FALSE NEIGHBOUR: 'it returns false'. Refute it at one input. -/
def weakJoinedWrong : ChangeSpec := { name := "weakJoined", fn := fun _ => fun
  | [d1, d2] => { results := [.lit (.bool false)], args := [d1, d2] }
  | _ => none }
def WeakJoinedWrongFalsely : Prop := weakJoinedRow.holds Try.pinned (OpenSpec.ofChange weakJoinedWrong)

/- THE SECOND FORM. 'bulk': how many values and letters a reading holds, each counted each time it is reached (what is shared counts as often as it is met; a slice's spare places count too). A statement '..UptoSaid' is the law's where the arguments, and the package variables that the reading takes, are together of bulk at most 1048576: NARROWER than '..Said'. Prove '..Said' where nothing that the law and all that it calls make is longer than what came in: it says more and counts as full. Else prove '..UptoSaid'. A law counts once. -/
mutual
def uptoBulk {H : Type} : DataW H → Nat
  | .lit (.string bytes) => bytes.length + 1
  | .lit _ => 1
  | .nil => 1
  | .ptr d => uptoBulk d + 1
  | .slice elems spare => uptoBulkAll elems + uptoBulkAll spare + 1
  | .agg parts => uptoBulkAll parts + 1
  | .iface _ d => uptoBulk d + 1
  | .map entries => uptoBulkEntries entries + 1
  | .held _ => 1
def uptoBulkAll {H : Type} : List (DataW H) → Nat
  | [] => 0
  | d :: r => uptoBulk d + uptoBulkAll r
def uptoBulkEntries {H : Type} : List (Lit × DataW H) → Nat
  | [] => 0
  | x :: r => uptoBulkEntry x + uptoBulkEntries r
def uptoBulkEntry {H : Type} : Lit × DataW H → Nat
  | (.string bytes, d) => bytes.length + uptoBulk d + 1
  | (_, d) => uptoBulk d + 1
 end
def uptoSmall : (H : Type) → List (DataW H) → Bool := fun _ ds => decide (uptoBulkAll ds ≤ 1048576)
def OpenSpec.upto (s : _root_.Go.ChangeSpec) : _root_.Go.OpenSpec := { _root_.Go.OpenSpec.ofChange s with cond := some uptoSmall }

/-- 'pacelinelaw.PathsDists', WHERE WHAT IT READS IS OF BULK AT MOST 1048576: true; the input reads as it did. -/
def pathsDistsUptoRow : OpenClaim := { program := "ytankibadiomkkaa", sum := "59b34b02e15eac80ea411d5c2c20763ea56b2291a99d300bff26391131b35b39", func := "paceline/pacelinelaw.PathsDists", spec := "pathsDists", unfollowed := true, recurses := true, apart := false, narrowed := true }
def PathsDistsUptoSaid : Prop := pathsDistsUptoRow.holds Try.pinned (OpenSpec.upto pathsDistsSpec)

/-- 'pacelinelaw.PathsWeaks', WHERE WHAT IT READS IS OF BULK AT MOST 1048576: true; the input reads as it did. -/
def pathsWeaksUptoRow : OpenClaim := { program := "ytankibadiomkkaa", sum := "59b34b02e15eac80ea411d5c2c20763ea56b2291a99d300bff26391131b35b39", func := "paceline/pacelinelaw.PathsWeaks", spec := "pathsWeaks", unfollowed := true, recurses := true, apart := false, narrowed := true }
def PathsWeaksUptoSaid : Prop := pathsWeaksUptoRow.holds Try.pinned (OpenSpec.upto pathsWeaksSpec)

/-- 'pacelinelaw.PathsReaches', WHERE WHAT IT READS IS OF BULK AT MOST 1048576: true; the input reads as it did. -/
def pathsReachesUptoRow : OpenClaim := { program := "ytankibadiomkkaa", sum := "59b34b02e15eac80ea411d5c2c20763ea56b2291a99d300bff26391131b35b39", func := "paceline/pacelinelaw.PathsReaches", spec := "pathsReaches", unfollowed := true, recurses := true, apart := false, narrowed := true }
def PathsReachesUptoSaid : Prop := pathsReachesUptoRow.holds Try.pinned (OpenSpec.upto pathsReachesSpec)

/-- 'pacelinelaw.PathsStrongs', WHERE WHAT IT READS IS OF BULK AT MOST 1048576: true; the input reads as it did. -/
def pathsStrongsUptoRow : OpenClaim := { program := "ytankibadiomkkaa", sum := "59b34b02e15eac80ea411d5c2c20763ea56b2291a99d300bff26391131b35b39", func := "paceline/pacelinelaw.PathsStrongs", spec := "pathsStrongs", unfollowed := true, recurses := true, apart := false, narrowed := true }
def PathsStrongsUptoSaid : Prop := pathsStrongsUptoRow.holds Try.pinned (OpenSpec.upto pathsStrongsSpec)

/-- 'pacelinekeep.DistTight', WHERE WHAT IT READS IS OF BULK AT MOST 1048576: true; the input reads as it did. -/
def distTightUptoRow : OpenClaim := { program := "ytankibadiomkkaa", sum := "59b34b02e15eac80ea411d5c2c20763ea56b2291a99d300bff26391131b35b39", func := "paceline/pacelinekeep.DistTight", spec := "distTight", unfollowed := true, recurses := true, apart := false, narrowed := true }
def DistTightUptoSaid : Prop := distTightUptoRow.holds Try.pinned (OpenSpec.upto distTightSpec)

/-- 'pacelinekeep.WeakJoined', WHERE WHAT IT READS IS OF BULK AT MOST 1048576: true; the input reads as it did. -/
def weakJoinedUptoRow : OpenClaim := { program := "ytankibadiomkkaa", sum := "59b34b02e15eac80ea411d5c2c20763ea56b2291a99d300bff26391131b35b39", func := "paceline/pacelinekeep.WeakJoined", spec := "weakJoined", unfollowed := true, recurses := true, apart := false, narrowed := true }
def WeakJoinedUptoSaid : Prop := weakJoinedUptoRow.holds Try.pinned (OpenSpec.upto weakJoinedSpec)

end Rows
end Go.Proofs.Ytankibadiomkkaa
