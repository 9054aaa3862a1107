/-
  No cell of these rows narrows 'for every input' (looked for: loops, veiled, ifaces, maps, wideKeys, modest, calm, conditions, laid).
  DERIVED. THE GIVEN ROWS OF THIS SEAT. 6 by the template 'for every input the law returns true; each argument reads behind the call as it read before'; 0 by the template 'total and deterministic' (their statements: YtjmjpmnjibdhhaaTotals.lean).
  GIVEN WITH THE SEED: the statements are not yours to turn. If you find one false, say at which input.
  Laid BY PROGRAM, IN A SANDBOX (cutbox-rows.mjs): the forced cells as the released guide's own fill.sh prints them over the translation 01c3649ec76104b0… (all of the seat's roots in one cut). By AI agents, Wed Nov 11 2026. No macro, syntax, notation, axiom, sorry.
-/
import Derived.Test.YtjmjpmnjibdhhaaChecked
import GoSem.Claim
import GoSem.ClaimJoined
import GoSem.ClaimMapViews
import Derived.JoinedTies
import Derived.KernelRfl
namespace Go.Proofs.Ytjmjpmnjibdhhaa
/- THE CELL 'sum', in the pinned program and in every row, IS THE sha256 OF THE DUMP (.gsa) THAT YtjmjpmnjibdhhaaProg.lean LOADS. Nothing in Lean hashes anything: it is a label: what it is worth is what the hold of that sum in a sandbox is worth. -/
noncomputable def Try.pinned : Pinned := { name := "ytjmjpmnjibdhhaa", sum := "01c3649ec76104b01ac8733645a9156852a3f34029104c2452b1b00b8157b94b", checked := Try.checked }
namespace Rows
def none {H : Type} : Left H := { results := [], args := [] }

/-- 'pacelinelaw.LinkOpens': WHATEVER THE INPUT: true; the input reads as it did. -/
def linkOpensSpec : ChangeSpec := { name := "linkOpens", fn := fun _ => fun
  | [d] => { results := [.lit (.bool true)], args := [d] }
  | _ => none }
def linkOpensRow : OpenClaim := { program := "ytjmjpmnjibdhhaa", sum := "01c3649ec76104b01ac8733645a9156852a3f34029104c2452b1b00b8157b94b", func := "paceline/pacelinelaw.LinkOpens", spec := "linkOpens", apart := false }
def LinkOpensSaid : Prop := linkOpensRow.holds Try.pinned (OpenSpec.ofChange linkOpensSpec)

/-- ITS FALSE NEIGHBOUR: 'it returns false'. Refute it at one input. -/
def linkOpensWrong : ChangeSpec := { name := "linkOpens", fn := fun _ => fun
  | [d] => { results := [.lit (.bool false)], args := [d] }
  | _ => none }
def LinkOpensWrongFalsely : Prop := linkOpensRow.holds Try.pinned (OpenSpec.ofChange linkOpensWrong)

/-- 'pacelinelaw.LinkSends': WHATEVER THE INPUT: true; the input reads as it did. -/
def linkSendsSpec : ChangeSpec := { name := "linkSends", fn := fun _ => fun
  | [d1, d2] => { results := [.lit (.bool true)], args := [d1, d2] }
  | _ => none }
def linkSendsRow : OpenClaim := { program := "ytjmjpmnjibdhhaa", sum := "01c3649ec76104b01ac8733645a9156852a3f34029104c2452b1b00b8157b94b", func := "paceline/pacelinelaw.LinkSends", spec := "linkSends", apart := false }
def LinkSendsSaid : Prop := linkSendsRow.holds Try.pinned (OpenSpec.ofChange linkSendsSpec)

/-- ITS FALSE NEIGHBOUR: 'it returns false'. Refute it at one input. -/
def linkSendsWrong : ChangeSpec := { name := "linkSends", fn := fun _ => fun
  | [d1, d2] => { results := [.lit (.bool false)], args := [d1, d2] }
  | _ => none }
def LinkSendsWrongFalsely : Prop := linkSendsRow.holds Try.pinned (OpenSpec.ofChange linkSendsWrong)

/-- 'pacelinelaw.LinkDues': WHATEVER THE INPUT: true; the input reads as it did. -/
def linkDuesSpec : ChangeSpec := { name := "linkDues", fn := fun _ => fun
  | [d] => { results := [.lit (.bool true)], args := [d] }
  | _ => none }
def linkDuesRow : OpenClaim := { program := "ytjmjpmnjibdhhaa", sum := "01c3649ec76104b01ac8733645a9156852a3f34029104c2452b1b00b8157b94b", func := "paceline/pacelinelaw.LinkDues", spec := "linkDues", apart := false }
def LinkDuesSaid : Prop := linkDuesRow.holds Try.pinned (OpenSpec.ofChange linkDuesSpec)

/-- ITS FALSE NEIGHBOUR: 'it returns false'. Refute it at one input. -/
def linkDuesWrong : ChangeSpec := { name := "linkDues", fn := fun _ => fun
  | [d] => { results := [.lit (.bool false)], args := [d] }
  | _ => none }
def LinkDuesWrongFalsely : Prop := linkDuesRow.holds Try.pinned (OpenSpec.ofChange linkDuesWrong)

/-- 'pacelinelaw.LinkAckeds': WHATEVER THE INPUT: true; the input reads as it did. -/
def linkAckedsSpec : ChangeSpec := { name := "linkAckeds", fn := fun _ => fun
  | [d1, d2] => { results := [.lit (.bool true)], args := [d1, d2] }
  | _ => none }
def linkAckedsRow : OpenClaim := { program := "ytjmjpmnjibdhhaa", sum := "01c3649ec76104b01ac8733645a9156852a3f34029104c2452b1b00b8157b94b", func := "paceline/pacelinelaw.LinkAckeds", spec := "linkAckeds", apart := false }
def LinkAckedsSaid : Prop := linkAckedsRow.holds Try.pinned (OpenSpec.ofChange linkAckedsSpec)

/-- ITS FALSE NEIGHBOUR: 'it returns false'. Refute it at one input. -/
def linkAckedsWrong : ChangeSpec := { name := "linkAckeds", fn := fun _ => fun
  | [d1, d2] => { results := [.lit (.bool false)], args := [d1, d2] }
  | _ => none }
def LinkAckedsWrongFalsely : Prop := linkAckedsRow.holds Try.pinned (OpenSpec.ofChange linkAckedsWrong)

/-- 'pacelinelaw.LinkHears': WHATEVER THE INPUT: true; the input reads as it did. -/
def linkHearsSpec : ChangeSpec := { name := "linkHears", fn := fun _ => fun
  | [d1, d2] => { results := [.lit (.bool true)], args := [d1, d2] }
  | _ => none }
def linkHearsRow : OpenClaim := { program := "ytjmjpmnjibdhhaa", sum := "01c3649ec76104b01ac8733645a9156852a3f34029104c2452b1b00b8157b94b", func := "paceline/pacelinelaw.LinkHears", spec := "linkHears", apart := false }
def LinkHearsSaid : Prop := linkHearsRow.holds Try.pinned (OpenSpec.ofChange linkHearsSpec)

/-- ITS FALSE NEIGHBOUR: 'it returns false'. Refute it at one input. -/
def linkHearsWrong : ChangeSpec := { name := "linkHears", fn := fun _ => fun
  | [d1, d2] => { results := [.lit (.bool false)], args := [d1, d2] }
  | _ => none }
def LinkHearsWrongFalsely : Prop := linkHearsRow.holds Try.pinned (OpenSpec.ofChange linkHearsWrong)

/-- 'pacelinekeep.LinkOrder': WHATEVER THE INPUT: true; the input reads as it did. -/
def linkOrderSpec : ChangeSpec := { name := "linkOrder", fn := fun _ => fun
  | [d1, d2] => { results := [.lit (.bool true)], args := [d1, d2] }
  | _ => none }
def linkOrderRow : OpenClaim := { program := "ytjmjpmnjibdhhaa", sum := "01c3649ec76104b01ac8733645a9156852a3f34029104c2452b1b00b8157b94b", func := "paceline/pacelinekeep.LinkOrder", spec := "linkOrder", apart := false }
def LinkOrderSaid : Prop := linkOrderRow.holds Try.pinned (OpenSpec.ofChange linkOrderSpec)

/-- ITS FALSE NEIGHBOUR: 'it returns false'. Refute it at one input. -/
def linkOrderWrong : ChangeSpec := { name := "linkOrder", fn := fun _ => fun
  | [d1, d2] => { results := [.lit (.bool false)], args := [d1, d2] }
  | _ => none }
def LinkOrderWrongFalsely : Prop := linkOrderRow.holds Try.pinned (OpenSpec.ofChange linkOrderWrong)

/- THE SECOND FORM. 'bulk': how many values and letters a reading holds, each counted each time it is reached (what is shared counts as often as it is met; a slice's spare places count too). A statement '..UptoSaid' is the law's where the arguments, and the package variables that the reading takes, are together of bulk at most 1048576: NARROWER than '..Said'. Prove '..Said' where nothing that the law and all that it calls make is longer than what came in: it says more and counts as full. Else prove '..UptoSaid'. A law counts once. -/
mutual
def uptoBulk {H : Type} : DataW H → Nat
  | .lit (.string bytes) => bytes.length + 1
  | .lit _ => 1
  | .nil => 1
  | .ptr d => uptoBulk d + 1
  | .slice elems spare => uptoBulkAll elems + uptoBulkAll spare + 1
  | .agg parts => uptoBulkAll parts + 1
  | .iface _ d => uptoBulk d + 1
  | .map entries => uptoBulkEntries entries + 1
  | .held _ => 1
def uptoBulkAll {H : Type} : List (DataW H) → Nat
  | [] => 0
  | d :: r => uptoBulk d + uptoBulkAll r
def uptoBulkEntries {H : Type} : List (Lit × DataW H) → Nat
  | [] => 0
  | x :: r => uptoBulkEntry x + uptoBulkEntries r
def uptoBulkEntry {H : Type} : Lit × DataW H → Nat
  | (.string bytes, d) => bytes.length + uptoBulk d + 1
  | (_, d) => uptoBulk d + 1
 end
def uptoSmall : (H : Type) → List (DataW H) → Bool := fun _ ds => decide (uptoBulkAll ds ≤ 1048576)
def OpenSpec.upto (s : _root_.Go.ChangeSpec) : _root_.Go.OpenSpec := { _root_.Go.OpenSpec.ofChange s with cond := some uptoSmall }

/-- 'pacelinelaw.LinkOpens', WHERE WHAT IT READS IS OF BULK AT MOST 1048576: true; the input reads as it did. -/
def linkOpensUptoRow : OpenClaim := { program := "ytjmjpmnjibdhhaa", sum := "01c3649ec76104b01ac8733645a9156852a3f34029104c2452b1b00b8157b94b", func := "paceline/pacelinelaw.LinkOpens", spec := "linkOpens", apart := false, narrowed := true }
def LinkOpensUptoSaid : Prop := linkOpensUptoRow.holds Try.pinned (OpenSpec.upto linkOpensSpec)

/-- 'pacelinelaw.LinkSends', WHERE WHAT IT READS IS OF BULK AT MOST 1048576: true; the input reads as it did. -/
def linkSendsUptoRow : OpenClaim := { program := "ytjmjpmnjibdhhaa", sum := "01c3649ec76104b01ac8733645a9156852a3f34029104c2452b1b00b8157b94b", func := "paceline/pacelinelaw.LinkSends", spec := "linkSends", apart := false, narrowed := true }
def LinkSendsUptoSaid : Prop := linkSendsUptoRow.holds Try.pinned (OpenSpec.upto linkSendsSpec)

/-- 'pacelinelaw.LinkDues', WHERE WHAT IT READS IS OF BULK AT MOST 1048576: true; the input reads as it did. -/
def linkDuesUptoRow : OpenClaim := { program := "ytjmjpmnjibdhhaa", sum := "01c3649ec76104b01ac8733645a9156852a3f34029104c2452b1b00b8157b94b", func := "paceline/pacelinelaw.LinkDues", spec := "linkDues", apart := false, narrowed := true }
def LinkDuesUptoSaid : Prop := linkDuesUptoRow.holds Try.pinned (OpenSpec.upto linkDuesSpec)

/-- 'pacelinelaw.LinkAckeds', WHERE WHAT IT READS IS OF BULK AT MOST 1048576: true; the input reads as it did. -/
def linkAckedsUptoRow : OpenClaim := { program := "ytjmjpmnjibdhhaa", sum := "01c3649ec76104b01ac8733645a9156852a3f34029104c2452b1b00b8157b94b", func := "paceline/pacelinelaw.LinkAckeds", spec := "linkAckeds", apart := false, narrowed := true }
def LinkAckedsUptoSaid : Prop := linkAckedsUptoRow.holds Try.pinned (OpenSpec.upto linkAckedsSpec)

/-- 'pacelinelaw.LinkHears', WHERE WHAT IT READS IS OF BULK AT MOST 1048576: true; the input reads as it did. -/
def linkHearsUptoRow : OpenClaim := { program := "ytjmjpmnjibdhhaa", sum := "01c3649ec76104b01ac8733645a9156852a3f34029104c2452b1b00b8157b94b", func := "paceline/pacelinelaw.LinkHears", spec := "linkHears", apart := false, narrowed := true }
def LinkHearsUptoSaid : Prop := linkHearsUptoRow.holds Try.pinned (OpenSpec.upto linkHearsSpec)

/-- 'pacelinekeep.LinkOrder', WHERE WHAT IT READS IS OF BULK AT MOST 1048576: true; the input reads as it did. -/
def linkOrderUptoRow : OpenClaim := { program := "ytjmjpmnjibdhhaa", sum := "01c3649ec76104b01ac8733645a9156852a3f34029104c2452b1b00b8157b94b", func := "paceline/pacelinekeep.LinkOrder", spec := "linkOrder", apart := false, narrowed := true }
def LinkOrderUptoSaid : Prop := linkOrderUptoRow.holds Try.pinned (OpenSpec.upto linkOrderSpec)

end Rows
end Go.Proofs.Ytjmjpmnjibdhhaa
