/-
  DERIVED. GIVEN WITH THE SEED: THE CARDS: each row of YthakibcfmbkpkaaDoorRows.lean that lists a variable, with what it lists TIED to the program's text (the seventh form; the later family's looks); each row that meets fmt, with fmt's text TOLD by the authors' own Lean function (tested against real Go, not proved from fmt's source: count such statements apart). THE CARD IS WHAT COUNTS. Prove the row's statement (the work); the ties are given (YthakibcfmbkpkaaDoorTie.lean); close each card by the builder's one call (the guide's Derived/Test/ToyasCard.lean, 'card_holds'). Laid BY PROGRAM, IN A SANDBOX (cutbox-door.mjs). By AI agents, Wed Nov 11 2026. No macro, syntax, notation, axiom, sorry.
-/
import Derived.Test.YthakibcfmbkpkaaDoorRows
import GoSem.ClaimSeven
namespace Go.Proofs.YthakibcfmbkpkaaDoor
namespace Rows

/-- THE TIED CARD OF 'pacelinelaw.CkptSeals'. -/
def ckptSealsCard : Claim7 := { stood := { row := ckptSealsRow, standIns := [], harness := (true, "f595af34c771b0baf9cd4ab5e2b8cbd51fb8921e1f35173da835381966680096"), looks := false }, kinds := [], alts := [], laidByText := true, laidKinds := [.data, .data, .data], laidTests := true, laidLooks := .later }
def CkptSealsCardSaid : Prop := Claim7.holds Tryd.pinned (.plain (OpenSpec.ofChange ckptSealsSpec)) ckptSealsCard

/-- THE TIED CARD OF 'pacelinelaw.CkptLoads'. -/
def ckptLoadsCard : Claim7 := { stood := { row := ckptLoadsRow, standIns := [], harness := (true, "f595af34c771b0baf9cd4ab5e2b8cbd51fb8921e1f35173da835381966680096"), looks := false }, kinds := [], alts := [], laidByText := true, laidKinds := [.data, .data, .data], laidTests := true, laidLooks := .later }
def CkptLoadsCardSaid : Prop := Claim7.holds Tryd.pinned (.plain (OpenSpec.ofChange ckptLoadsSpec)) ckptLoadsCard

/-- THE TIED CARD OF 'pacelinelaw.CkptNewests'. -/
def ckptNewestsCard : Claim7 := { stood := { row := ckptNewestsRow, standIns := [], harness := (true, "f595af34c771b0baf9cd4ab5e2b8cbd51fb8921e1f35173da835381966680096"), looks := false }, kinds := [], alts := [], laidByText := true, laidKinds := [.data, .data, .data], laidTests := true, laidLooks := .later }
def CkptNewestsCardSaid : Prop := Claim7.holds Tryd.pinned (.plain (OpenSpec.ofChange ckptNewestsSpec)) ckptNewestsCard

/-- THE SECOND FORM's CARD OF 'pacelinelaw.CkptSeals'. -/
def ckptSealsUptoCard : Claim7 := { stood := { row := ckptSealsUptoRow, standIns := [], harness := (true, "f595af34c771b0baf9cd4ab5e2b8cbd51fb8921e1f35173da835381966680096"), looks := false }, kinds := [], alts := [], laidByText := true, laidKinds := [.data, .data, .data], laidTests := true, laidLooks := .later }
def CkptSealsUptoCardSaid : Prop := Claim7.holds Tryd.pinned (.plain (OpenSpec.upto ckptSealsSpec)) ckptSealsUptoCard

/-- THE SECOND FORM's CARD OF 'pacelinelaw.CkptLoads'. -/
def ckptLoadsUptoCard : Claim7 := { stood := { row := ckptLoadsUptoRow, standIns := [], harness := (true, "f595af34c771b0baf9cd4ab5e2b8cbd51fb8921e1f35173da835381966680096"), looks := false }, kinds := [], alts := [], laidByText := true, laidKinds := [.data, .data, .data], laidTests := true, laidLooks := .later }
def CkptLoadsUptoCardSaid : Prop := Claim7.holds Tryd.pinned (.plain (OpenSpec.upto ckptLoadsSpec)) ckptLoadsUptoCard

/-- THE SECOND FORM's CARD OF 'pacelinelaw.CkptNewests'. -/
def ckptNewestsUptoCard : Claim7 := { stood := { row := ckptNewestsUptoRow, standIns := [], harness := (true, "f595af34c771b0baf9cd4ab5e2b8cbd51fb8921e1f35173da835381966680096"), looks := false }, kinds := [], alts := [], laidByText := true, laidKinds := [.data, .data, .data], laidTests := true, laidLooks := .later }
def CkptNewestsUptoCardSaid : Prop := Claim7.holds Tryd.pinned (.plain (OpenSpec.upto ckptNewestsSpec)) ckptNewestsUptoCard
end Rows
end Go.Proofs.YthakibcfmbkpkaaDoor
