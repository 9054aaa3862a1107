/-
  No cell of these rows narrows 'for every input' (looked for: loops, veiled, ifaces, maps, wideKeys, modest, calm, conditions, laid).
  DERIVED. THE GIVEN ROWS OF THIS SEAT. 6 by the template 'for every input the law returns true; each argument reads behind the call as it read before'; 0 by the template 'total and deterministic' (their statements: YtneapdndidglcaaTotals.lean).
  GIVEN WITH THE SEED: the statements are not yours to turn. If you find one false, say at which input.
  Laid BY PROGRAM, IN A SANDBOX (cutbox-rows.mjs): the forced cells as the released guide's own fill.sh prints them over the translation fd9e3866d9f55f42… (all of the seat's roots in one cut). By AI agents, Wed Nov 11 2026. No macro, syntax, notation, axiom, sorry.
-/
import Derived.Test.YtneapdndidglcaaChecked
import GoSem.Claim
import GoSem.ClaimJoined
import GoSem.ClaimMapViews
import Derived.JoinedTies
import Derived.KernelRfl
namespace Go.Proofs.Ytneapdndidglcaa
/- THE CELL 'sum', in the pinned program and in every row, IS THE sha256 OF THE DUMP (.gsa) THAT YtneapdndidglcaaProg.lean LOADS. Nothing in Lean hashes anything: it is a label: what it is worth is what the hold of that sum in a sandbox is worth. -/
noncomputable def Try.pinned : Pinned := { name := "ytneapdndidglcaa", sum := "fd9e3866d9f55f42e0657c8e53970566a7d7fded8abadfd08f73a56bf5755847", checked := Try.checked }
namespace Rows
def none {H : Type} : Left H := { results := [], args := [] }

/-- 'pacelinelaw.VarintPuts': WHATEVER THE INPUT: true; the input reads as it did. -/
def varintPutsSpec : ChangeSpec := { name := "varintPuts", fn := fun _ => fun
  | [d] => { results := [.lit (.bool true)], args := [d] }
  | _ => none }
def varintPutsRow : OpenClaim := { program := "ytneapdndidglcaa", sum := "fd9e3866d9f55f42e0657c8e53970566a7d7fded8abadfd08f73a56bf5755847", func := "paceline/pacelinelaw.VarintPuts", spec := "varintPuts", recurses := true, apart := false }
def VarintPutsSaid : Prop := varintPutsRow.holds Try.pinned (OpenSpec.ofChange varintPutsSpec)

/-- ITS FALSE NEIGHBOUR: 'it returns false'. Refute it at one input. -/
def varintPutsWrong : ChangeSpec := { name := "varintPuts", fn := fun _ => fun
  | [d] => { results := [.lit (.bool false)], args := [d] }
  | _ => none }
def VarintPutsWrongFalsely : Prop := varintPutsRow.holds Try.pinned (OpenSpec.ofChange varintPutsWrong)

/-- 'pacelinelaw.VarintGets': WHATEVER THE INPUT: true; the input reads as it did. -/
def varintGetsSpec : ChangeSpec := { name := "varintGets", fn := fun _ => fun
  | [d] => { results := [.lit (.bool true)], args := [d] }
  | _ => none }
def varintGetsRow : OpenClaim := { program := "ytneapdndidglcaa", sum := "fd9e3866d9f55f42e0657c8e53970566a7d7fded8abadfd08f73a56bf5755847", func := "paceline/pacelinelaw.VarintGets", spec := "varintGets", apart := false }
def VarintGetsSaid : Prop := varintGetsRow.holds Try.pinned (OpenSpec.ofChange varintGetsSpec)

/-- ITS FALSE NEIGHBOUR: 'it returns false'. Refute it at one input. -/
def varintGetsWrong : ChangeSpec := { name := "varintGets", fn := fun _ => fun
  | [d] => { results := [.lit (.bool false)], args := [d] }
  | _ => none }
def VarintGetsWrongFalsely : Prop := varintGetsRow.holds Try.pinned (OpenSpec.ofChange varintGetsWrong)

/-- 'pacelinelaw.VarintZigs': WHATEVER THE INPUT: true; the input reads as it did. -/
def varintZigsSpec : ChangeSpec := { name := "varintZigs", fn := fun _ => fun
  | [d] => { results := [.lit (.bool true)], args := [d] }
  | _ => none }
def varintZigsRow : OpenClaim := { program := "ytneapdndidglcaa", sum := "fd9e3866d9f55f42e0657c8e53970566a7d7fded8abadfd08f73a56bf5755847", func := "paceline/pacelinelaw.VarintZigs", spec := "varintZigs", apart := false }
def VarintZigsSaid : Prop := varintZigsRow.holds Try.pinned (OpenSpec.ofChange varintZigsSpec)

/-- ITS FALSE NEIGHBOUR: 'it returns false'. Refute it at one input. -/
def varintZigsWrong : ChangeSpec := { name := "varintZigs", fn := fun _ => fun
  | [d] => { results := [.lit (.bool false)], args := [d] }
  | _ => none }
def VarintZigsWrongFalsely : Prop := varintZigsRow.holds Try.pinned (OpenSpec.ofChange varintZigsWrong)

/-- 'pacelinelaw.VarintZags': WHATEVER THE INPUT: true; the input reads as it did. -/
def varintZagsSpec : ChangeSpec := { name := "varintZags", fn := fun _ => fun
  | [d] => { results := [.lit (.bool true)], args := [d] }
  | _ => none }
def varintZagsRow : OpenClaim := { program := "ytneapdndidglcaa", sum := "fd9e3866d9f55f42e0657c8e53970566a7d7fded8abadfd08f73a56bf5755847", func := "paceline/pacelinelaw.VarintZags", spec := "varintZags", apart := false }
def VarintZagsSaid : Prop := varintZagsRow.holds Try.pinned (OpenSpec.ofChange varintZagsSpec)

/-- ITS FALSE NEIGHBOUR: 'it returns false'. Refute it at one input. -/
def varintZagsWrong : ChangeSpec := { name := "varintZags", fn := fun _ => fun
  | [d] => { results := [.lit (.bool false)], args := [d] }
  | _ => none }
def VarintZagsWrongFalsely : Prop := varintZagsRow.holds Try.pinned (OpenSpec.ofChange varintZagsWrong)

/-- 'pacelinelaw.VarintGaps': WHATEVER THE INPUT: true; the input reads as it did. -/
def varintGapsSpec : ChangeSpec := { name := "varintGaps", fn := fun _ => fun
  | [d] => { results := [.lit (.bool true)], args := [d] }
  | _ => none }
def varintGapsRow : OpenClaim := { program := "ytneapdndidglcaa", sum := "fd9e3866d9f55f42e0657c8e53970566a7d7fded8abadfd08f73a56bf5755847", func := "paceline/pacelinelaw.VarintGaps", spec := "varintGaps", unfollowed := true, recurses := true, apart := false }
def VarintGapsSaid : Prop := varintGapsRow.holds Try.pinned (OpenSpec.ofChange varintGapsSpec)

/-- ITS FALSE NEIGHBOUR: 'it returns false'. Refute it at one input. -/
def varintGapsWrong : ChangeSpec := { name := "varintGaps", fn := fun _ => fun
  | [d] => { results := [.lit (.bool false)], args := [d] }
  | _ => none }
def VarintGapsWrongFalsely : Prop := varintGapsRow.holds Try.pinned (OpenSpec.ofChange varintGapsWrong)

/-- 'pacelinelaw.VarintUngaps': WHATEVER THE INPUT: true; the input reads as it did. -/
def varintUngapsSpec : ChangeSpec := { name := "varintUngaps", fn := fun _ => fun
  | [d] => { results := [.lit (.bool true)], args := [d] }
  | _ => none }
def varintUngapsRow : OpenClaim := { program := "ytneapdndidglcaa", sum := "fd9e3866d9f55f42e0657c8e53970566a7d7fded8abadfd08f73a56bf5755847", func := "paceline/pacelinelaw.VarintUngaps", spec := "varintUngaps", apart := false }
def VarintUngapsSaid : Prop := varintUngapsRow.holds Try.pinned (OpenSpec.ofChange varintUngapsSpec)

/-- ITS FALSE NEIGHBOUR: 'it returns false'. Refute it at one input. -/
def varintUngapsWrong : ChangeSpec := { name := "varintUngaps", fn := fun _ => fun
  | [d] => { results := [.lit (.bool false)], args := [d] }
  | _ => none }
def VarintUngapsWrongFalsely : Prop := varintUngapsRow.holds Try.pinned (OpenSpec.ofChange varintUngapsWrong)

/- THE SECOND FORM. 'bulk': how many values and letters a reading holds, each counted each time it is reached (what is shared counts as often as it is met; a slice's spare places count too). A statement '..UptoSaid' is the law's where the arguments, and the package variables that the reading takes, are together of bulk at most 1048576: NARROWER than '..Said'. Prove '..Said' where nothing that the law and all that it calls make is longer than what came in: it says more and counts as full. Else prove '..UptoSaid'. A law counts once. -/
mutual
def uptoBulk {H : Type} : DataW H → Nat
  | .lit (.string bytes) => bytes.length + 1
  | .lit _ => 1
  | .nil => 1
  | .ptr d => uptoBulk d + 1
  | .slice elems spare => uptoBulkAll elems + uptoBulkAll spare + 1
  | .agg parts => uptoBulkAll parts + 1
  | .iface _ d => uptoBulk d + 1
  | .map entries => uptoBulkEntries entries + 1
  | .held _ => 1
def uptoBulkAll {H : Type} : List (DataW H) → Nat
  | [] => 0
  | d :: r => uptoBulk d + uptoBulkAll r
def uptoBulkEntries {H : Type} : List (Lit × DataW H) → Nat
  | [] => 0
  | x :: r => uptoBulkEntry x + uptoBulkEntries r
def uptoBulkEntry {H : Type} : Lit × DataW H → Nat
  | (.string bytes, d) => bytes.length + uptoBulk d + 1
  | (_, d) => uptoBulk d + 1
 end
def uptoSmall : (H : Type) → List (DataW H) → Bool := fun _ ds => decide (uptoBulkAll ds ≤ 1048576)
def OpenSpec.upto (s : _root_.Go.ChangeSpec) : _root_.Go.OpenSpec := { _root_.Go.OpenSpec.ofChange s with cond := some uptoSmall }

/-- 'pacelinelaw.VarintPuts', WHERE WHAT IT READS IS OF BULK AT MOST 1048576: true; the input reads as it did. -/
def varintPutsUptoRow : OpenClaim := { program := "ytneapdndidglcaa", sum := "fd9e3866d9f55f42e0657c8e53970566a7d7fded8abadfd08f73a56bf5755847", func := "paceline/pacelinelaw.VarintPuts", spec := "varintPuts", recurses := true, apart := false, narrowed := true }
def VarintPutsUptoSaid : Prop := varintPutsUptoRow.holds Try.pinned (OpenSpec.upto varintPutsSpec)

/-- 'pacelinelaw.VarintGets', WHERE WHAT IT READS IS OF BULK AT MOST 1048576: true; the input reads as it did. -/
def varintGetsUptoRow : OpenClaim := { program := "ytneapdndidglcaa", sum := "fd9e3866d9f55f42e0657c8e53970566a7d7fded8abadfd08f73a56bf5755847", func := "paceline/pacelinelaw.VarintGets", spec := "varintGets", apart := false, narrowed := true }
def VarintGetsUptoSaid : Prop := varintGetsUptoRow.holds Try.pinned (OpenSpec.upto varintGetsSpec)

/-- 'pacelinelaw.VarintZigs', WHERE WHAT IT READS IS OF BULK AT MOST 1048576: true; the input reads as it did. -/
def varintZigsUptoRow : OpenClaim := { program := "ytneapdndidglcaa", sum := "fd9e3866d9f55f42e0657c8e53970566a7d7fded8abadfd08f73a56bf5755847", func := "paceline/pacelinelaw.VarintZigs", spec := "varintZigs", apart := false, narrowed := true }
def VarintZigsUptoSaid : Prop := varintZigsUptoRow.holds Try.pinned (OpenSpec.upto varintZigsSpec)

/-- 'pacelinelaw.VarintZags', WHERE WHAT IT READS IS OF BULK AT MOST 1048576: true; the input reads as it did. -/
def varintZagsUptoRow : OpenClaim := { program := "ytneapdndidglcaa", sum := "fd9e3866d9f55f42e0657c8e53970566a7d7fded8abadfd08f73a56bf5755847", func := "paceline/pacelinelaw.VarintZags", spec := "varintZags", apart := false, narrowed := true }
def VarintZagsUptoSaid : Prop := varintZagsUptoRow.holds Try.pinned (OpenSpec.upto varintZagsSpec)

/-- 'pacelinelaw.VarintGaps', WHERE WHAT IT READS IS OF BULK AT MOST 1048576: true; the input reads as it did. -/
def varintGapsUptoRow : OpenClaim := { program := "ytneapdndidglcaa", sum := "fd9e3866d9f55f42e0657c8e53970566a7d7fded8abadfd08f73a56bf5755847", func := "paceline/pacelinelaw.VarintGaps", spec := "varintGaps", unfollowed := true, recurses := true, apart := false, narrowed := true }
def VarintGapsUptoSaid : Prop := varintGapsUptoRow.holds Try.pinned (OpenSpec.upto varintGapsSpec)

/-- 'pacelinelaw.VarintUngaps', WHERE WHAT IT READS IS OF BULK AT MOST 1048576: true; the input reads as it did. -/
def varintUngapsUptoRow : OpenClaim := { program := "ytneapdndidglcaa", sum := "fd9e3866d9f55f42e0657c8e53970566a7d7fded8abadfd08f73a56bf5755847", func := "paceline/pacelinelaw.VarintUngaps", spec := "varintUngaps", apart := false, narrowed := true }
def VarintUngapsUptoSaid : Prop := varintUngapsUptoRow.holds Try.pinned (OpenSpec.upto varintUngapsSpec)

end Rows
end Go.Proofs.Ytneapdndidglcaa
