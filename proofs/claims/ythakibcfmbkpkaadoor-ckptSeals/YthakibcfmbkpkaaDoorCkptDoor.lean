/-
  The door's own world meets the lists of the laws of chapter 14 (no walk of these reads a listed variable).
-/
import Derived.Test.YthakibcfmbkpkaaDoorDoorWrap
import Derived.Lib.LaidTab
import Derived.Stop.LaidErr
namespace Go.Proofs.YthakibcfmbkpkaaDoor
set_option maxRecDepth 100000
open Go.ChangeShapes Go.WideShapes Go.ChangeAt Go.RowKit

/-- Nothing is asked of the first world. -/
def NoF (_ : World) : Prop := True
theorem no_facts {W : World} {l : List (String × DataW Unit)} (_ : laidMetH Tryd.prog l W) (_ : W.ShapedOpen Tryd.prog) : NoF W := trivial
theorem ckptSeals_met (os : Os) (args : Array Value) : laidMetH Tryd.prog Rows.ckptSealsRow.laid ((World.doorLaid Tryd.prog 400 os).forCall (fun _ _ => 0) ⟨#[], args, []⟩).memory :=
  laidMetH_of_parts3 (fuel := 8) (laidMet_of_run' 8 (by kernel_rfl) (by kernel_rfl)) (by kernel_rfl) (by kernel_rfl)
theorem ckptLoads_met (os : Os) (args : Array Value) : laidMetH Tryd.prog Rows.ckptLoadsRow.laid ((World.doorLaid Tryd.prog 400 os).forCall (fun _ _ => 0) ⟨#[], args, []⟩).memory :=
  laidMetH_of_parts3 (fuel := 8) (laidMet_of_run' 8 (by kernel_rfl) (by kernel_rfl)) (by kernel_rfl) (by kernel_rfl)
theorem ckptNewests_met (os : Os) (args : Array Value) : laidMetH Tryd.prog Rows.ckptNewestsRow.laid ((World.doorLaid Tryd.prog 400 os).forCall (fun _ _ => 0) ⟨#[], args, []⟩).memory :=
  laidMetH_of_parts3 (fuel := 8) (laidMet_of_run' 8 (by kernel_rfl) (by kernel_rfl)) (by kernel_rfl) (by kernel_rfl)
end Go.Proofs.YthakibcfmbkpkaaDoor
