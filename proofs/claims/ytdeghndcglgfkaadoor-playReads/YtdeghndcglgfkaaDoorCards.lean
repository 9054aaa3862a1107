/-
  DERIVED. GIVEN WITH THE SEED: THE CARDS: each row of YtdeghndcglgfkaaDoorRows.lean that lists a variable, with what it lists TIED to the program's text (the seventh form; the later family's looks); each row that meets fmt, with fmt's text TOLD by the authors' own Lean function (tested against real Go, not proved from fmt's source: count such statements apart). THE CARD IS WHAT COUNTS. Prove the row's statement (the work); the ties are given (YtdeghndcglgfkaaDoorTie.lean); close each card by the builder's one call (the guide's Derived/Test/ToyasCard.lean, 'card_holds'). Laid BY PROGRAM, IN A SANDBOX (cutbox-door.mjs). By AI agents, Wed Nov 11 2026. No macro, syntax, notation, axiom, sorry.
-/
import Derived.Test.YtdeghndcglgfkaaDoorRows
import GoSem.ClaimSeven
namespace Go.Proofs.YtdeghndcglgfkaaDoor
namespace Rows

/-- THE TIED CARD OF 'pacelinelaw.PlayShows'. -/
def playShowsCard : Claim7 := { stood := { row := playShowsRow, standIns := [], harness := (true, "9da3f975c75f78bd0e8649b96b949851ae4c815f2e60a7769ea6857a98adf4ba"), looks := true }, kinds := [], alts := [], laidByText := true, laidKinds := [.data, .data, .data, .data], laidTests := true, laidLooks := .later }
def PlayShowsCardSaid : Prop := Claim7.holds Tryd.pinned (.plain (OpenSpec.ofChange playShowsSpec)) playShowsCard

/-- THE TIED CARD OF 'pacelinelaw.PlayReads'. -/
def playReadsCard : Claim7 := { stood := { row := playReadsRow, standIns := [], harness := (true, "9da3f975c75f78bd0e8649b96b949851ae4c815f2e60a7769ea6857a98adf4ba"), looks := true }, kinds := [], alts := [], laidByText := true, laidKinds := [.data, .data, .data, .sentinel, .sentinel, .data], laidTests := true, laidLooks := .later }
def PlayReadsCardSaid : Prop := Claim7.holds Tryd.pinned (.plain (OpenSpec.ofChange playReadsSpec)) playReadsCard

/-- THE TIED CARD OF 'pacelinekeep.PlayBack'. -/
def playBackCard : Claim7 := { stood := { row := playBackRow, standIns := [], harness := (true, "9da3f975c75f78bd0e8649b96b949851ae4c815f2e60a7769ea6857a98adf4ba"), looks := true }, kinds := [], alts := [], laidByText := true, laidKinds := [.data, .data, .data, .sentinel, .sentinel, .data], laidTests := true, laidLooks := .later }
def PlayBackCardSaid : Prop := Claim7.holds Tryd.pinned (.plain (OpenSpec.ofChange playBackSpec)) playBackCard

/-- THE TIED CARD OF 'pacelinekeep.PlayFixed'. -/
def playFixedCard : Claim7 := { stood := { row := playFixedRow, standIns := [], harness := (true, "9da3f975c75f78bd0e8649b96b949851ae4c815f2e60a7769ea6857a98adf4ba"), looks := true }, kinds := [], alts := [], laidByText := true, laidKinds := [.data, .data, .data, .sentinel, .sentinel, .data], laidTests := true, laidLooks := .later }
def PlayFixedCardSaid : Prop := Claim7.holds Tryd.pinned (.plain (OpenSpec.ofChange playFixedSpec)) playFixedCard

/-- THE SECOND FORM's CARD OF 'pacelinelaw.PlayShows'. -/
def playShowsUptoCard : Claim7 := { stood := { row := playShowsUptoRow, standIns := [], harness := (true, "9da3f975c75f78bd0e8649b96b949851ae4c815f2e60a7769ea6857a98adf4ba"), looks := true }, kinds := [], alts := [], laidByText := true, laidKinds := [.data, .data, .data, .data], laidTests := true, laidLooks := .later }
def PlayShowsUptoCardSaid : Prop := Claim7.holds Tryd.pinned (.plain (OpenSpec.upto playShowsSpec)) playShowsUptoCard

/-- THE SECOND FORM's CARD OF 'pacelinelaw.PlayReads'. -/
def playReadsUptoCard : Claim7 := { stood := { row := playReadsUptoRow, standIns := [], harness := (true, "9da3f975c75f78bd0e8649b96b949851ae4c815f2e60a7769ea6857a98adf4ba"), looks := true }, kinds := [], alts := [], laidByText := true, laidKinds := [.data, .data, .data, .sentinel, .sentinel, .data], laidTests := true, laidLooks := .later }
def PlayReadsUptoCardSaid : Prop := Claim7.holds Tryd.pinned (.plain (OpenSpec.upto playReadsSpec)) playReadsUptoCard

/-- THE SECOND FORM's CARD OF 'pacelinekeep.PlayBack'. -/
def playBackUptoCard : Claim7 := { stood := { row := playBackUptoRow, standIns := [], harness := (true, "9da3f975c75f78bd0e8649b96b949851ae4c815f2e60a7769ea6857a98adf4ba"), looks := true }, kinds := [], alts := [], laidByText := true, laidKinds := [.data, .data, .data, .sentinel, .sentinel, .data], laidTests := true, laidLooks := .later }
def PlayBackUptoCardSaid : Prop := Claim7.holds Tryd.pinned (.plain (OpenSpec.upto playBackSpec)) playBackUptoCard

/-- THE SECOND FORM's CARD OF 'pacelinekeep.PlayFixed'. -/
def playFixedUptoCard : Claim7 := { stood := { row := playFixedUptoRow, standIns := [], harness := (true, "9da3f975c75f78bd0e8649b96b949851ae4c815f2e60a7769ea6857a98adf4ba"), looks := true }, kinds := [], alts := [], laidByText := true, laidKinds := [.data, .data, .data, .sentinel, .sentinel, .data], laidTests := true, laidLooks := .later }
def PlayFixedUptoCardSaid : Prop := Claim7.holds Tryd.pinned (.plain (OpenSpec.upto playFixedSpec)) playFixedUptoCard
end Rows
end Go.Proofs.YtdeghndcglgfkaaDoor
