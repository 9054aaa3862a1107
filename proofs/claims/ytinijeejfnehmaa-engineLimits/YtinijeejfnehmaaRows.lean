/-
  No cell of these rows narrows 'for every input' (looked for: loops, veiled, ifaces, maps, wideKeys, modest, calm, conditions, laid).
  DERIVED. THE GIVEN ROWS OF THIS SEAT. 2 by the template 'for every input the law returns true; each argument reads behind the call as it read before'; 0 by the template 'total and deterministic' (their statements: YtinijeejfnehmaaTotals.lean).
  GIVEN WITH THE SEED: the statements are not yours to turn. If you find one false, say at which input.
  Laid BY PROGRAM, IN A SANDBOX (cutbox-rows.mjs): the forced cells as the released guide's own fill.sh prints them over the translation c32a14c512667657… (all of the seat's roots in one cut). By AI agents, Wed Nov 11 2026. No macro, syntax, notation, axiom, sorry.
-/
import Derived.Test.YtinijeejfnehmaaChecked
import GoSem.Claim
import GoSem.ClaimJoined
import GoSem.ClaimMapViews
import Derived.JoinedTies
import Derived.KernelRfl
namespace Go.Proofs.Ytinijeejfnehmaa
/- THE CELL 'sum', in the pinned program and in every row, IS THE sha256 OF THE DUMP (.gsa) THAT YtinijeejfnehmaaProg.lean LOADS. Nothing in Lean hashes anything: it is a label: what it is worth is what the hold of that sum in a sandbox is worth. -/
noncomputable def Try.pinned : Pinned := { name := "ytinijeejfnehmaa", sum := "c32a14c51266765714b4190ccdce7eae636cc6722e9d6c1d8ee07ae035ec40ae", checked := Try.checked }
namespace Rows
def none {H : Type} : Left H := { results := [], args := [] }

/-- 'pacelinelaw.EngineChecks': WHATEVER THE INPUT: true; the input reads as it did. -/
def engineChecksSpec : ChangeSpec := { name := "engineChecks", fn := fun _ => fun
  | [d] => { results := [.lit (.bool true)], args := [d] }
  | _ => none }
def engineChecksRow : OpenClaim := { program := "ytinijeejfnehmaa", sum := "c32a14c51266765714b4190ccdce7eae636cc6722e9d6c1d8ee07ae035ec40ae", func := "paceline/pacelinelaw.EngineChecks", spec := "engineChecks", unfollowed := true, recurses := true, apart := false }
def EngineChecksSaid : Prop := engineChecksRow.holds Try.pinned (OpenSpec.ofChange engineChecksSpec)

/-- ITS FALSE NEIGHBOUR: 'it returns false'. Refute it at one input. -/
def engineChecksWrong : ChangeSpec := { name := "engineChecks", fn := fun _ => fun
  | [d] => { results := [.lit (.bool false)], args := [d] }
  | _ => none }
def EngineChecksWrongFalsely : Prop := engineChecksRow.holds Try.pinned (OpenSpec.ofChange engineChecksWrong)

/-- 'pacelinelaw.EngineLimits': WHATEVER THE INPUT: true; the input reads as it did. -/
def engineLimitsSpec : ChangeSpec := { name := "engineLimits", fn := fun _ => fun
  | [d] => { results := [.lit (.bool true)], args := [d] }
  | _ => none }
def engineLimitsRow : OpenClaim := { program := "ytinijeejfnehmaa", sum := "c32a14c51266765714b4190ccdce7eae636cc6722e9d6c1d8ee07ae035ec40ae", func := "paceline/pacelinelaw.EngineLimits", spec := "engineLimits", unfollowed := true, recurses := true, apart := false }
def EngineLimitsSaid : Prop := engineLimitsRow.holds Try.pinned (OpenSpec.ofChange engineLimitsSpec)

/-- ITS FALSE NEIGHBOUR: 'it returns false'. Refute it at one input. -/
def engineLimitsWrong : ChangeSpec := { name := "engineLimits", fn := fun _ => fun
  | [d] => { results := [.lit (.bool false)], args := [d] }
  | _ => none }
def EngineLimitsWrongFalsely : Prop := engineLimitsRow.holds Try.pinned (OpenSpec.ofChange engineLimitsWrong)

/- THE SECOND FORM. 'bulk': how many values and letters a reading holds, each counted each time it is reached (what is shared counts as often as it is met; a slice's spare places count too). A statement '..UptoSaid' is the law's where the arguments, and the package variables that the reading takes, are together of bulk at most 1048576: NARROWER than '..Said'. Prove '..Said' where nothing that the law and all that it calls make is longer than what came in: it says more and counts as full. Else prove '..UptoSaid'. A law counts once. -/
mutual
def uptoBulk {H : Type} : DataW H → Nat
  | .lit (.string bytes) => bytes.length + 1
  | .lit _ => 1
  | .nil => 1
  | .ptr d => uptoBulk d + 1
  | .slice elems spare => uptoBulkAll elems + uptoBulkAll spare + 1
  | .agg parts => uptoBulkAll parts + 1
  | .iface _ d => uptoBulk d + 1
  | .map entries => uptoBulkEntries entries + 1
  | .held _ => 1
def uptoBulkAll {H : Type} : List (DataW H) → Nat
  | [] => 0
  | d :: r => uptoBulk d + uptoBulkAll r
def uptoBulkEntries {H : Type} : List (Lit × DataW H) → Nat
  | [] => 0
  | x :: r => uptoBulkEntry x + uptoBulkEntries r
def uptoBulkEntry {H : Type} : Lit × DataW H → Nat
  | (.string bytes, d) => bytes.length + uptoBulk d + 1
  | (_, d) => uptoBulk d + 1
 end
def uptoSmall : (H : Type) → List (DataW H) → Bool := fun _ ds => decide (uptoBulkAll ds ≤ 1048576)
def OpenSpec.upto (s : _root_.Go.ChangeSpec) : _root_.Go.OpenSpec := { _root_.Go.OpenSpec.ofChange s with cond := some uptoSmall }

/-- 'pacelinelaw.EngineChecks', WHERE WHAT IT READS IS OF BULK AT MOST 1048576: true; the input reads as it did. -/
def engineChecksUptoRow : OpenClaim := { program := "ytinijeejfnehmaa", sum := "c32a14c51266765714b4190ccdce7eae636cc6722e9d6c1d8ee07ae035ec40ae", func := "paceline/pacelinelaw.EngineChecks", spec := "engineChecks", unfollowed := true, recurses := true, apart := false, narrowed := true }
def EngineChecksUptoSaid : Prop := engineChecksUptoRow.holds Try.pinned (OpenSpec.upto engineChecksSpec)

/-- 'pacelinelaw.EngineLimits', WHERE WHAT IT READS IS OF BULK AT MOST 1048576: true; the input reads as it did. -/
def engineLimitsUptoRow : OpenClaim := { program := "ytinijeejfnehmaa", sum := "c32a14c51266765714b4190ccdce7eae636cc6722e9d6c1d8ee07ae035ec40ae", func := "paceline/pacelinelaw.EngineLimits", spec := "engineLimits", unfollowed := true, recurses := true, apart := false, narrowed := true }
def EngineLimitsUptoSaid : Prop := engineLimitsUptoRow.holds Try.pinned (OpenSpec.upto engineLimitsSpec)

end Rows
end Go.Proofs.Ytinijeejfnehmaa
