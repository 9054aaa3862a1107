/-
  DERIVED. GIVEN WITH THE SEED: THE CARDS: each row of YtkgdenbabafeoaaGreatDoorRows.lean that lists a variable, with what it lists TIED to the program's text (the seventh form; the later family's looks); each row that meets fmt, with fmt's text TOLD by the authors' own Lean function (tested against real Go, not proved from fmt's source: count such statements apart). THE CARD IS WHAT COUNTS. Prove the row's statement (the work); the ties are given (YtkgdenbabafeoaaGreatDoorTie.lean); close each card by the builder's one call (the guide's Derived/Test/ToyasCard.lean, 'card_holds'). Laid BY PROGRAM, IN A SANDBOX (cutbox-door.mjs). By AI agents, Wed Nov 11 2026. No macro, syntax, notation, axiom, sorry.
-/
import Derived.Test.YtkgdenbabafeoaaGreatDoorRows
import GoSem.ClaimSeven
namespace Go.Proofs.YtkgdenbabafeoaaGreatDoor
namespace Rows

/-- THE TIED CARD OF 'pacelinekeep.CkptBack'. -/
def ckptBackCard : Claim7 := { stood := { row := ckptBackRow, standIns := [], harness := (true, "7589c64c7087c3bf6730f2df7ba050d35ac8eda433249b14bcc41f2a7d036b6d"), looks := false }, kinds := [], alts := [], laidByText := true, laidKinds := [.data, .data, .data], laidTests := true, laidLooks := .later }
def CkptBackCardSaid : Prop := Claim7.holds Tryz.pinned (.plain (OpenSpec.ofChange ckptBackSpec)) ckptBackCard

/-- THE TIED CARD OF 'pacelinekeep.CkptTorn'. -/
def ckptTornCard : Claim7 := { stood := { row := ckptTornRow, standIns := [], harness := (true, "7589c64c7087c3bf6730f2df7ba050d35ac8eda433249b14bcc41f2a7d036b6d"), looks := false }, kinds := [], alts := [], laidByText := true, laidKinds := [.data, .data, .data], laidTests := true, laidLooks := .later }
def CkptTornCardSaid : Prop := Claim7.holds Tryz.pinned (.plain (OpenSpec.ofChange ckptTornSpec)) ckptTornCard

/-- THE TIED CARD OF 'pacelinekeep.CkptNewest'. -/
def ckptNewestCard : Claim7 := { stood := { row := ckptNewestRow, standIns := [], harness := (true, "7589c64c7087c3bf6730f2df7ba050d35ac8eda433249b14bcc41f2a7d036b6d"), looks := false }, kinds := [], alts := [], laidByText := true, laidKinds := [.data, .data, .data], laidTests := true, laidLooks := .later }
def CkptNewestCardSaid : Prop := Claim7.holds Tryz.pinned (.plain (OpenSpec.ofChange ckptNewestSpec)) ckptNewestCard

/-- THE SECOND FORM's CARD OF 'pacelinekeep.CkptBack'. -/
def ckptBackUptoCard : Claim7 := { stood := { row := ckptBackUptoRow, standIns := [], harness := (true, "7589c64c7087c3bf6730f2df7ba050d35ac8eda433249b14bcc41f2a7d036b6d"), looks := false }, kinds := [], alts := [], laidByText := true, laidKinds := [.data, .data, .data], laidTests := true, laidLooks := .later }
def CkptBackUptoCardSaid : Prop := Claim7.holds Tryz.pinned (.plain (OpenSpec.upto ckptBackSpec)) ckptBackUptoCard

/-- THE SECOND FORM's CARD OF 'pacelinekeep.CkptTorn'. -/
def ckptTornUptoCard : Claim7 := { stood := { row := ckptTornUptoRow, standIns := [], harness := (true, "7589c64c7087c3bf6730f2df7ba050d35ac8eda433249b14bcc41f2a7d036b6d"), looks := false }, kinds := [], alts := [], laidByText := true, laidKinds := [.data, .data, .data], laidTests := true, laidLooks := .later }
def CkptTornUptoCardSaid : Prop := Claim7.holds Tryz.pinned (.plain (OpenSpec.upto ckptTornSpec)) ckptTornUptoCard

/-- THE SECOND FORM's CARD OF 'pacelinekeep.CkptNewest'. -/
def ckptNewestUptoCard : Claim7 := { stood := { row := ckptNewestUptoRow, standIns := [], harness := (true, "7589c64c7087c3bf6730f2df7ba050d35ac8eda433249b14bcc41f2a7d036b6d"), looks := false }, kinds := [], alts := [], laidByText := true, laidKinds := [.data, .data, .data], laidTests := true, laidLooks := .later }
def CkptNewestUptoCardSaid : Prop := Claim7.holds Tryz.pinned (.plain (OpenSpec.upto ckptNewestSpec)) ckptNewestUptoCard
end Rows
end Go.Proofs.YtkgdenbabafeoaaGreatDoor
