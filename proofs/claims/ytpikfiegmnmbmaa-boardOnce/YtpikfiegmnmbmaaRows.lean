/-
  No cell of these rows narrows 'for every input' (looked for: loops, veiled, ifaces, maps, wideKeys, modest, calm, conditions, laid).
  DERIVED. THE GIVEN ROWS OF THIS SEAT. 6 by the template 'for every input the law returns true; each argument reads behind the call as it read before'; 0 by the template 'total and deterministic' (their statements: YtpikfiegmnmbmaaTotals.lean).
  GIVEN WITH THE SEED: the statements are not yours to turn. If you find one false, say at which input.
  Laid BY PROGRAM, IN A SANDBOX (cutbox-rows.mjs): the forced cells as the released guide's own fill.sh prints them over the translation 6f3aae2dbeb0e4ba… (all of the seat's roots in one cut). By AI agents, Wed Nov 11 2026. No macro, syntax, notation, axiom, sorry.
-/
import Derived.Test.YtpikfiegmnmbmaaChecked
import GoSem.Claim
import GoSem.ClaimJoined
import GoSem.ClaimMapViews
import Derived.JoinedTies
import Derived.KernelRfl
namespace Go.Proofs.Ytpikfiegmnmbmaa
/- THE CELL 'sum', in the pinned program and in every row, IS THE sha256 OF THE DUMP (.gsa) THAT YtpikfiegmnmbmaaProg.lean LOADS. Nothing in Lean hashes anything: it is a label: what it is worth is what the hold of that sum in a sandbox is worth. -/
noncomputable def Try.pinned : Pinned := { name := "ytpikfiegmnmbmaa", sum := "6f3aae2dbeb0e4bad74e36c2b30a49c5df2a812956dce3eea2203e1ecf0e7c8f", checked := Try.checked }
namespace Rows
def none {H : Type} : Left H := { results := [], args := [] }

/-- 'pacelinelaw.BoardOpens': WHATEVER THE INPUT: true; the input reads as it did. -/
def boardOpensSpec : ChangeSpec := { name := "boardOpens", fn := fun _ => fun
  | [d1, d2, d3] => { results := [.lit (.bool true)], args := [d1, d2, d3] }
  | _ => none }
def boardOpensRow : OpenClaim := { program := "ytpikfiegmnmbmaa", sum := "6f3aae2dbeb0e4bad74e36c2b30a49c5df2a812956dce3eea2203e1ecf0e7c8f", func := "paceline/pacelinelaw.BoardOpens", spec := "boardOpens", apart := false }
def BoardOpensSaid : Prop := boardOpensRow.holds Try.pinned (OpenSpec.ofChange boardOpensSpec)

/-- ITS FALSE NEIGHBOUR: 'it returns false'. Refute it at one input. -/
def boardOpensWrong : ChangeSpec := { name := "boardOpens", fn := fun _ => fun
  | [d1, d2, d3] => { results := [.lit (.bool false)], args := [d1, d2, d3] }
  | _ => none }
def BoardOpensWrongFalsely : Prop := boardOpensRow.holds Try.pinned (OpenSpec.ofChange boardOpensWrong)

/-- 'pacelinelaw.BoardHears': WHATEVER THE INPUT: true; the input reads as it did. -/
def boardHearsSpec : ChangeSpec := { name := "boardHears", fn := fun _ => fun
  | [d1, d2] => { results := [.lit (.bool true)], args := [d1, d2] }
  | _ => none }
def boardHearsRow : OpenClaim := { program := "ytpikfiegmnmbmaa", sum := "6f3aae2dbeb0e4bad74e36c2b30a49c5df2a812956dce3eea2203e1ecf0e7c8f", func := "paceline/pacelinelaw.BoardHears", spec := "boardHears", unfollowed := true, recurses := true, apart := false }
def BoardHearsSaid : Prop := boardHearsRow.holds Try.pinned (OpenSpec.ofChange boardHearsSpec)

/-- ITS FALSE NEIGHBOUR: 'it returns false'. Refute it at one input. -/
def boardHearsWrong : ChangeSpec := { name := "boardHears", fn := fun _ => fun
  | [d1, d2] => { results := [.lit (.bool false)], args := [d1, d2] }
  | _ => none }
def BoardHearsWrongFalsely : Prop := boardHearsRow.holds Try.pinned (OpenSpec.ofChange boardHearsWrong)

/-- 'pacelinelaw.BoardReadies': WHATEVER THE INPUT: true; the input reads as it did. -/
def boardReadiesSpec : ChangeSpec := { name := "boardReadies", fn := fun _ => fun
  | [d] => { results := [.lit (.bool true)], args := [d] }
  | _ => none }
def boardReadiesRow : OpenClaim := { program := "ytpikfiegmnmbmaa", sum := "6f3aae2dbeb0e4bad74e36c2b30a49c5df2a812956dce3eea2203e1ecf0e7c8f", func := "paceline/pacelinelaw.BoardReadies", spec := "boardReadies", unfollowed := true, recurses := true, apart := false }
def BoardReadiesSaid : Prop := boardReadiesRow.holds Try.pinned (OpenSpec.ofChange boardReadiesSpec)

/-- ITS FALSE NEIGHBOUR: 'it returns false'. Refute it at one input. -/
def boardReadiesWrong : ChangeSpec := { name := "boardReadies", fn := fun _ => fun
  | [d] => { results := [.lit (.bool false)], args := [d] }
  | _ => none }
def BoardReadiesWrongFalsely : Prop := boardReadiesRow.holds Try.pinned (OpenSpec.ofChange boardReadiesWrong)

/-- 'pacelinekeep.BoardAll': WHATEVER THE INPUT: true; the input reads as it did. -/
def boardAllSpec : ChangeSpec := { name := "boardAll", fn := fun _ => fun
  | [d1, d2, d3, d4, d5] => { results := [.lit (.bool true)], args := [d1, d2, d3, d4, d5] }
  | _ => none }
def boardAllRow : OpenClaim := { program := "ytpikfiegmnmbmaa", sum := "6f3aae2dbeb0e4bad74e36c2b30a49c5df2a812956dce3eea2203e1ecf0e7c8f", func := "paceline/pacelinekeep.BoardAll", spec := "boardAll", unfollowed := true, recurses := true, apart := false }
def BoardAllSaid : Prop := boardAllRow.holds Try.pinned (OpenSpec.ofChange boardAllSpec)

/-- ITS FALSE NEIGHBOUR: 'it returns false'. Refute it at one input. -/
def boardAllWrong : ChangeSpec := { name := "boardAll", fn := fun _ => fun
  | [d1, d2, d3, d4, d5] => { results := [.lit (.bool false)], args := [d1, d2, d3, d4, d5] }
  | _ => none }
def BoardAllWrongFalsely : Prop := boardAllRow.holds Try.pinned (OpenSpec.ofChange boardAllWrong)

/-- 'pacelinekeep.BoardTurns': WHATEVER THE INPUT: true; the input reads as it did. -/
def boardTurnsSpec : ChangeSpec := { name := "boardTurns", fn := fun _ => fun
  | [d1, d2, d3, d4] => { results := [.lit (.bool true)], args := [d1, d2, d3, d4] }
  | _ => none }
def boardTurnsRow : OpenClaim := { program := "ytpikfiegmnmbmaa", sum := "6f3aae2dbeb0e4bad74e36c2b30a49c5df2a812956dce3eea2203e1ecf0e7c8f", func := "paceline/pacelinekeep.BoardTurns", spec := "boardTurns", unfollowed := true, recurses := true, apart := false }
def BoardTurnsSaid : Prop := boardTurnsRow.holds Try.pinned (OpenSpec.ofChange boardTurnsSpec)

/-- ITS FALSE NEIGHBOUR: 'it returns false'. Refute it at one input. -/
def boardTurnsWrong : ChangeSpec := { name := "boardTurns", fn := fun _ => fun
  | [d1, d2, d3, d4] => { results := [.lit (.bool false)], args := [d1, d2, d3, d4] }
  | _ => none }
def BoardTurnsWrongFalsely : Prop := boardTurnsRow.holds Try.pinned (OpenSpec.ofChange boardTurnsWrong)

/-- 'pacelinekeep.BoardOnce': WHATEVER THE INPUT: true; the input reads as it did. -/
def boardOnceSpec : ChangeSpec := { name := "boardOnce", fn := fun _ => fun
  | [d1, d2, d3, d4, d5] => { results := [.lit (.bool true)], args := [d1, d2, d3, d4, d5] }
  | _ => none }
def boardOnceRow : OpenClaim := { program := "ytpikfiegmnmbmaa", sum := "6f3aae2dbeb0e4bad74e36c2b30a49c5df2a812956dce3eea2203e1ecf0e7c8f", func := "paceline/pacelinekeep.BoardOnce", spec := "boardOnce", unfollowed := true, recurses := true, apart := false }
def BoardOnceSaid : Prop := boardOnceRow.holds Try.pinned (OpenSpec.ofChange boardOnceSpec)

/-- ITS FALSE NEIGHBOUR: 'it returns false'. Refute it at one input. -/
def boardOnceWrong : ChangeSpec := { name := "boardOnce", fn := fun _ => fun
  | [d1, d2, d3, d4, d5] => { results := [.lit (.bool false)], args := [d1, d2, d3, d4, d5] }
  | _ => none }
def BoardOnceWrongFalsely : Prop := boardOnceRow.holds Try.pinned (OpenSpec.ofChange boardOnceWrong)

/- THE SECOND FORM. 'bulk': how many values and letters a reading holds, each counted each time it is reached (what is shared counts as often as it is met; a slice's spare places count too). A statement '..UptoSaid' is the law's where the arguments, and the package variables that the reading takes, are together of bulk at most 1048576: NARROWER than '..Said'. Prove '..Said' where nothing that the law and all that it calls make is longer than what came in: it says more and counts as full. Else prove '..UptoSaid'. A law counts once. -/
mutual
def uptoBulk {H : Type} : DataW H → Nat
  | .lit (.string bytes) => bytes.length + 1
  | .lit _ => 1
  | .nil => 1
  | .ptr d => uptoBulk d + 1
  | .slice elems spare => uptoBulkAll elems + uptoBulkAll spare + 1
  | .agg parts => uptoBulkAll parts + 1
  | .iface _ d => uptoBulk d + 1
  | .map entries => uptoBulkEntries entries + 1
  | .held _ => 1
def uptoBulkAll {H : Type} : List (DataW H) → Nat
  | [] => 0
  | d :: r => uptoBulk d + uptoBulkAll r
def uptoBulkEntries {H : Type} : List (Lit × DataW H) → Nat
  | [] => 0
  | x :: r => uptoBulkEntry x + uptoBulkEntries r
def uptoBulkEntry {H : Type} : Lit × DataW H → Nat
  | (.string bytes, d) => bytes.length + uptoBulk d + 1
  | (_, d) => uptoBulk d + 1
 end
def uptoSmall : (H : Type) → List (DataW H) → Bool := fun _ ds => decide (uptoBulkAll ds ≤ 1048576)
def OpenSpec.upto (s : _root_.Go.ChangeSpec) : _root_.Go.OpenSpec := { _root_.Go.OpenSpec.ofChange s with cond := some uptoSmall }

/-- 'pacelinelaw.BoardOpens', WHERE WHAT IT READS IS OF BULK AT MOST 1048576: true; the input reads as it did. -/
def boardOpensUptoRow : OpenClaim := { program := "ytpikfiegmnmbmaa", sum := "6f3aae2dbeb0e4bad74e36c2b30a49c5df2a812956dce3eea2203e1ecf0e7c8f", func := "paceline/pacelinelaw.BoardOpens", spec := "boardOpens", apart := false, narrowed := true }
def BoardOpensUptoSaid : Prop := boardOpensUptoRow.holds Try.pinned (OpenSpec.upto boardOpensSpec)

/-- 'pacelinelaw.BoardHears', WHERE WHAT IT READS IS OF BULK AT MOST 1048576: true; the input reads as it did. -/
def boardHearsUptoRow : OpenClaim := { program := "ytpikfiegmnmbmaa", sum := "6f3aae2dbeb0e4bad74e36c2b30a49c5df2a812956dce3eea2203e1ecf0e7c8f", func := "paceline/pacelinelaw.BoardHears", spec := "boardHears", unfollowed := true, recurses := true, apart := false, narrowed := true }
def BoardHearsUptoSaid : Prop := boardHearsUptoRow.holds Try.pinned (OpenSpec.upto boardHearsSpec)

/-- 'pacelinelaw.BoardReadies', WHERE WHAT IT READS IS OF BULK AT MOST 1048576: true; the input reads as it did. -/
def boardReadiesUptoRow : OpenClaim := { program := "ytpikfiegmnmbmaa", sum := "6f3aae2dbeb0e4bad74e36c2b30a49c5df2a812956dce3eea2203e1ecf0e7c8f", func := "paceline/pacelinelaw.BoardReadies", spec := "boardReadies", unfollowed := true, recurses := true, apart := false, narrowed := true }
def BoardReadiesUptoSaid : Prop := boardReadiesUptoRow.holds Try.pinned (OpenSpec.upto boardReadiesSpec)

/-- 'pacelinekeep.BoardAll', WHERE WHAT IT READS IS OF BULK AT MOST 1048576: true; the input reads as it did. -/
def boardAllUptoRow : OpenClaim := { program := "ytpikfiegmnmbmaa", sum := "6f3aae2dbeb0e4bad74e36c2b30a49c5df2a812956dce3eea2203e1ecf0e7c8f", func := "paceline/pacelinekeep.BoardAll", spec := "boardAll", unfollowed := true, recurses := true, apart := false, narrowed := true }
def BoardAllUptoSaid : Prop := boardAllUptoRow.holds Try.pinned (OpenSpec.upto boardAllSpec)

/-- 'pacelinekeep.BoardTurns', WHERE WHAT IT READS IS OF BULK AT MOST 1048576: true; the input reads as it did. -/
def boardTurnsUptoRow : OpenClaim := { program := "ytpikfiegmnmbmaa", sum := "6f3aae2dbeb0e4bad74e36c2b30a49c5df2a812956dce3eea2203e1ecf0e7c8f", func := "paceline/pacelinekeep.BoardTurns", spec := "boardTurns", unfollowed := true, recurses := true, apart := false, narrowed := true }
def BoardTurnsUptoSaid : Prop := boardTurnsUptoRow.holds Try.pinned (OpenSpec.upto boardTurnsSpec)

/-- 'pacelinekeep.BoardOnce', WHERE WHAT IT READS IS OF BULK AT MOST 1048576: true; the input reads as it did. -/
def boardOnceUptoRow : OpenClaim := { program := "ytpikfiegmnmbmaa", sum := "6f3aae2dbeb0e4bad74e36c2b30a49c5df2a812956dce3eea2203e1ecf0e7c8f", func := "paceline/pacelinekeep.BoardOnce", spec := "boardOnce", unfollowed := true, recurses := true, apart := false, narrowed := true }
def BoardOnceUptoSaid : Prop := boardOnceUptoRow.holds Try.pinned (OpenSpec.upto boardOnceSpec)

end Rows
end Go.Proofs.Ytpikfiegmnmbmaa
