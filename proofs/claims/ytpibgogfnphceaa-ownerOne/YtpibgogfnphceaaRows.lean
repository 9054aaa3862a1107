/-
  No cell of these rows narrows 'for every input' (looked for: loops, veiled, ifaces, maps, wideKeys, modest, calm, conditions, laid).
  DERIVED. THE GIVEN ROWS OF THIS SEAT. 5 by the template 'for every input the law returns true; each argument reads behind the call as it read before'; 0 by the template 'total and deterministic' (their statements: YtpibgogfnphceaaTotals.lean).
  GIVEN WITH THE SEED: the statements are not yours to turn. If you find one false, say at which input.
  Laid BY PROGRAM, IN A SANDBOX (cutbox-rows.mjs): the forced cells as the released guide's own fill.sh prints them over the translation 6dc750f1298fa1c4… (all of the seat's roots in one cut). By AI agents, Wed Nov 11 2026. No macro, syntax, notation, axiom, sorry.
-/
import Derived.Test.YtpibgogfnphceaaChecked
import GoSem.Claim
import GoSem.ClaimJoined
import GoSem.ClaimMapViews
import Derived.JoinedTies
import Derived.KernelRfl
namespace Go.Proofs.Ytpibgogfnphceaa
/- THE CELL 'sum', in the pinned program and in every row, IS THE sha256 OF THE DUMP (.gsa) THAT YtpibgogfnphceaaProg.lean LOADS. Nothing in Lean hashes anything: it is a label: what it is worth is what the hold of that sum in a sandbox is worth. -/
noncomputable def Try.pinned : Pinned := { name := "ytpibgogfnphceaa", sum := "6dc750f1298fa1c43d9bebf2c475b6b9a3f943631685d79aa1304b9421973800", checked := Try.checked }
namespace Rows
def none {H : Type} : Left H := { results := [], args := [] }

/-- 'pacelinelaw.OwnerOfs': WHATEVER THE INPUT: true; the input reads as it did. -/
def ownerOfsSpec : ChangeSpec := { name := "ownerOfs", fn := fun _ => fun
  | [d1, d2, d3] => { results := [.lit (.bool true)], args := [d1, d2, d3] }
  | _ => none }
def ownerOfsRow : OpenClaim := { program := "ytpibgogfnphceaa", sum := "6dc750f1298fa1c43d9bebf2c475b6b9a3f943631685d79aa1304b9421973800", func := "paceline/pacelinelaw.OwnerOfs", spec := "ownerOfs", apart := false }
def OwnerOfsSaid : Prop := ownerOfsRow.holds Try.pinned (OpenSpec.ofChange ownerOfsSpec)

/-- ITS FALSE NEIGHBOUR: 'it returns false'. Refute it at one input. -/
def ownerOfsWrong : ChangeSpec := { name := "ownerOfs", fn := fun _ => fun
  | [d1, d2, d3] => { results := [.lit (.bool false)], args := [d1, d2, d3] }
  | _ => none }
def OwnerOfsWrongFalsely : Prop := ownerOfsRow.holds Try.pinned (OpenSpec.ofChange ownerOfsWrong)

/-- 'pacelinelaw.OwnerMines': WHATEVER THE INPUT: true; the input reads as it did. -/
def ownerMinesSpec : ChangeSpec := { name := "ownerMines", fn := fun _ => fun
  | [d1, d2, d3] => { results := [.lit (.bool true)], args := [d1, d2, d3] }
  | _ => none }
def ownerMinesRow : OpenClaim := { program := "ytpibgogfnphceaa", sum := "6dc750f1298fa1c43d9bebf2c475b6b9a3f943631685d79aa1304b9421973800", func := "paceline/pacelinelaw.OwnerMines", spec := "ownerMines", apart := false }
def OwnerMinesSaid : Prop := ownerMinesRow.holds Try.pinned (OpenSpec.ofChange ownerMinesSpec)

/-- ITS FALSE NEIGHBOUR: 'it returns false'. Refute it at one input. -/
def ownerMinesWrong : ChangeSpec := { name := "ownerMines", fn := fun _ => fun
  | [d1, d2, d3] => { results := [.lit (.bool false)], args := [d1, d2, d3] }
  | _ => none }
def OwnerMinesWrongFalsely : Prop := ownerMinesRow.holds Try.pinned (OpenSpec.ofChange ownerMinesWrong)

/-- 'pacelinelaw.OwnerPlaces': WHATEVER THE INPUT: true; the input reads as it did. -/
def ownerPlacesSpec : ChangeSpec := { name := "ownerPlaces", fn := fun _ => fun
  | [d1, d2, d3] => { results := [.lit (.bool true)], args := [d1, d2, d3] }
  | _ => none }
def ownerPlacesRow : OpenClaim := { program := "ytpibgogfnphceaa", sum := "6dc750f1298fa1c43d9bebf2c475b6b9a3f943631685d79aa1304b9421973800", func := "paceline/pacelinelaw.OwnerPlaces", spec := "ownerPlaces", apart := false }
def OwnerPlacesSaid : Prop := ownerPlacesRow.holds Try.pinned (OpenSpec.ofChange ownerPlacesSpec)

/-- ITS FALSE NEIGHBOUR: 'it returns false'. Refute it at one input. -/
def ownerPlacesWrong : ChangeSpec := { name := "ownerPlaces", fn := fun _ => fun
  | [d1, d2, d3] => { results := [.lit (.bool false)], args := [d1, d2, d3] }
  | _ => none }
def OwnerPlacesWrongFalsely : Prop := ownerPlacesRow.holds Try.pinned (OpenSpec.ofChange ownerPlacesWrong)

/-- 'pacelinekeep.OwnerOne': WHATEVER THE INPUT: true; the input reads as it did. -/
def ownerOneSpec : ChangeSpec := { name := "ownerOne", fn := fun _ => fun
  | [d1, d2, d3] => { results := [.lit (.bool true)], args := [d1, d2, d3] }
  | _ => none }
def ownerOneRow : OpenClaim := { program := "ytpibgogfnphceaa", sum := "6dc750f1298fa1c43d9bebf2c475b6b9a3f943631685d79aa1304b9421973800", func := "paceline/pacelinekeep.OwnerOne", spec := "ownerOne", apart := false }
def OwnerOneSaid : Prop := ownerOneRow.holds Try.pinned (OpenSpec.ofChange ownerOneSpec)

/-- ITS FALSE NEIGHBOUR: 'it returns false'. Refute it at one input. -/
def ownerOneWrong : ChangeSpec := { name := "ownerOne", fn := fun _ => fun
  | [d1, d2, d3] => { results := [.lit (.bool false)], args := [d1, d2, d3] }
  | _ => none }
def OwnerOneWrongFalsely : Prop := ownerOneRow.holds Try.pinned (OpenSpec.ofChange ownerOneWrong)

/-- 'pacelinekeep.OwnerEven': WHATEVER THE INPUT: true; the input reads as it did. -/
def ownerEvenSpec : ChangeSpec := { name := "ownerEven", fn := fun _ => fun
  | [d1, d2] => { results := [.lit (.bool true)], args := [d1, d2] }
  | _ => none }
def ownerEvenRow : OpenClaim := { program := "ytpibgogfnphceaa", sum := "6dc750f1298fa1c43d9bebf2c475b6b9a3f943631685d79aa1304b9421973800", func := "paceline/pacelinekeep.OwnerEven", spec := "ownerEven", apart := false }
def OwnerEvenSaid : Prop := ownerEvenRow.holds Try.pinned (OpenSpec.ofChange ownerEvenSpec)

/-- ITS FALSE NEIGHBOUR: 'it returns false'. Refute it at one input. -/
def ownerEvenWrong : ChangeSpec := { name := "ownerEven", fn := fun _ => fun
  | [d1, d2] => { results := [.lit (.bool false)], args := [d1, d2] }
  | _ => none }
def OwnerEvenWrongFalsely : Prop := ownerEvenRow.holds Try.pinned (OpenSpec.ofChange ownerEvenWrong)

/- THE SECOND FORM. 'bulk': how many values and letters a reading holds, each counted each time it is reached (what is shared counts as often as it is met; a slice's spare places count too). A statement '..UptoSaid' is the law's where the arguments, and the package variables that the reading takes, are together of bulk at most 1048576: NARROWER than '..Said'. Prove '..Said' where nothing that the law and all that it calls make is longer than what came in: it says more and counts as full. Else prove '..UptoSaid'. A law counts once. -/
mutual
def uptoBulk {H : Type} : DataW H → Nat
  | .lit (.string bytes) => bytes.length + 1
  | .lit _ => 1
  | .nil => 1
  | .ptr d => uptoBulk d + 1
  | .slice elems spare => uptoBulkAll elems + uptoBulkAll spare + 1
  | .agg parts => uptoBulkAll parts + 1
  | .iface _ d => uptoBulk d + 1
  | .map entries => uptoBulkEntries entries + 1
  | .held _ => 1
def uptoBulkAll {H : Type} : List (DataW H) → Nat
  | [] => 0
  | d :: r => uptoBulk d + uptoBulkAll r
def uptoBulkEntries {H : Type} : List (Lit × DataW H) → Nat
  | [] => 0
  | x :: r => uptoBulkEntry x + uptoBulkEntries r
def uptoBulkEntry {H : Type} : Lit × DataW H → Nat
  | (.string bytes, d) => bytes.length + uptoBulk d + 1
  | (_, d) => uptoBulk d + 1
 end
def uptoSmall : (H : Type) → List (DataW H) → Bool := fun _ ds => decide (uptoBulkAll ds ≤ 1048576)
def OpenSpec.upto (s : _root_.Go.ChangeSpec) : _root_.Go.OpenSpec := { _root_.Go.OpenSpec.ofChange s with cond := some uptoSmall }

/-- 'pacelinelaw.OwnerOfs', WHERE WHAT IT READS IS OF BULK AT MOST 1048576: true; the input reads as it did. -/
def ownerOfsUptoRow : OpenClaim := { program := "ytpibgogfnphceaa", sum := "6dc750f1298fa1c43d9bebf2c475b6b9a3f943631685d79aa1304b9421973800", func := "paceline/pacelinelaw.OwnerOfs", spec := "ownerOfs", apart := false, narrowed := true }
def OwnerOfsUptoSaid : Prop := ownerOfsUptoRow.holds Try.pinned (OpenSpec.upto ownerOfsSpec)

/-- 'pacelinelaw.OwnerMines', WHERE WHAT IT READS IS OF BULK AT MOST 1048576: true; the input reads as it did. -/
def ownerMinesUptoRow : OpenClaim := { program := "ytpibgogfnphceaa", sum := "6dc750f1298fa1c43d9bebf2c475b6b9a3f943631685d79aa1304b9421973800", func := "paceline/pacelinelaw.OwnerMines", spec := "ownerMines", apart := false, narrowed := true }
def OwnerMinesUptoSaid : Prop := ownerMinesUptoRow.holds Try.pinned (OpenSpec.upto ownerMinesSpec)

/-- 'pacelinelaw.OwnerPlaces', WHERE WHAT IT READS IS OF BULK AT MOST 1048576: true; the input reads as it did. -/
def ownerPlacesUptoRow : OpenClaim := { program := "ytpibgogfnphceaa", sum := "6dc750f1298fa1c43d9bebf2c475b6b9a3f943631685d79aa1304b9421973800", func := "paceline/pacelinelaw.OwnerPlaces", spec := "ownerPlaces", apart := false, narrowed := true }
def OwnerPlacesUptoSaid : Prop := ownerPlacesUptoRow.holds Try.pinned (OpenSpec.upto ownerPlacesSpec)

/-- 'pacelinekeep.OwnerOne', WHERE WHAT IT READS IS OF BULK AT MOST 1048576: true; the input reads as it did. -/
def ownerOneUptoRow : OpenClaim := { program := "ytpibgogfnphceaa", sum := "6dc750f1298fa1c43d9bebf2c475b6b9a3f943631685d79aa1304b9421973800", func := "paceline/pacelinekeep.OwnerOne", spec := "ownerOne", apart := false, narrowed := true }
def OwnerOneUptoSaid : Prop := ownerOneUptoRow.holds Try.pinned (OpenSpec.upto ownerOneSpec)

/-- 'pacelinekeep.OwnerEven', WHERE WHAT IT READS IS OF BULK AT MOST 1048576: true; the input reads as it did. -/
def ownerEvenUptoRow : OpenClaim := { program := "ytpibgogfnphceaa", sum := "6dc750f1298fa1c43d9bebf2c475b6b9a3f943631685d79aa1304b9421973800", func := "paceline/pacelinekeep.OwnerEven", spec := "ownerEven", apart := false, narrowed := true }
def OwnerEvenUptoSaid : Prop := ownerEvenUptoRow.holds Try.pinned (OpenSpec.upto ownerEvenSpec)

end Rows
end Go.Proofs.Ytpibgogfnphceaa
