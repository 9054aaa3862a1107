/-
  What the lists of the laws of chapter 17 that read give, and a world that meets them.
-/
import Derived.Test.YtdeghndcglgfkaaDoorPlayDoor
import Derived.Test.YtdeghndcglgfkaaDoorAtoiLib
import Derived.PinnedBridge
import Derived.Shelf.Vars
namespace Go.Proofs.YtdeghndcglgfkaaDoor
set_option maxRecDepth 100000
open Go.ChangeShapes Go.WideShapes Go.ChangeAt Go.RowKit

theorem starErr : "*" ++ "errors.errorString" = "*errors.errorString" := by decide
theorem Tryd.rowErr (u : TypeId) (h : Tryd.prog.typeName? 3 u = some "*errors.errorString") : u = 107 :=
  typeName_ptr_named (nm := "errors.errorString") (by rw [starErr]; kernel_rfl) (by kernel_rfl) (by decide) u (by rw [starErr]; exact h)
theorem cell_var {W : World} {name : String} {g : Nat} {v : Value} (hg : Tryd.prog.globalNamed name = some g) (h : W.var? Tryd.prog name = some #[v]) : W.cell? ⟨g, 0, none⟩ = some v := by
  have := World.var?_cell hg h 0
  simpa using this
/-- What the walks that read ask of the first world. -/
def RedF (w : World) : Prop := FrmF w.heap.size w ∧ VarF w.heap.size w
theorem playReads_met (os : Os) (args : Array Value) : laidMetH Tryd.prog Rows.playReadsRow.laid ((World.doorLaid Tryd.prog 400 os).forCall (fun _ _ => 0) ⟨#[], args, []⟩).memory :=
  laidMetH_of_parts3 (fuel := 8) (laidMet_of_run' 8 (by kernel_rfl) (by kernel_rfl)) (by kernel_rfl) (by kernel_rfl)
theorem playReads_facts {W : World} (h : laidMetH Tryd.prog Rows.playReadsRow.laid W) (hsh : W.ShapedOpen Tryd.prog) : RedF W := by
  rw [MakeChecks.laidMetH_plain _ _ _ (by kernel_rfl)] at h
  have h2 := laidMet.tail (laidMet.tail h)
  have h3 := laidMet.tail h2
  have h4 := laidMet.tail h3
  have h5 := laidMet.tail h4
  obtain ⟨a1, s1, hv1, -, -, -⟩ := laid_sentinel (g := 4) (ti := 45) (tp := 107) (te := 109) (ts := 9) h3 (by kernel_rfl) (by kernel_rfl) Tryd.underlying45 Tryd.rowErr Tryd.underlying107 Tryd.underlying109 rfl rfl Tryd.underlying9 (by kernel_rfl) (by kernel_rfl)
  obtain ⟨a0, s0, hv0, -, -, -⟩ := laid_sentinel (g := 3) (ti := 45) (tp := 107) (te := 109) (ts := 9) h4 (by kernel_rfl) (by kernel_rfl) Tryd.underlying45 Tryd.rowErr Tryd.underlying107 Tryd.underlying109 rfl rfl Tryd.underlying9 (by kernel_rfl) (by kernel_rfl)
  have c1 := cell_var (g := 4) (by kernel_rfl) hv1
  have c0 := cell_var (g := 3) (by kernel_rfl) hv0
  obtain ⟨m, hm⟩ : ∃ m, W.cell? ⟨1, 0, none⟩ = some (.int .i64 m) := cell_of_shapedOpen_int (t := 3) (zero := #[.int .i64 0]) hsh (by decide +kernel) (by kernel_rfl) rfl (by kernel_rfl) (by kernel_rfl) Tryd.underlying3
  exact ⟨forms_of h5, ⟨m, hm⟩, ⟨_, _, c0⟩, ⟨_, _, c1⟩, tab10_of h2, World.block_lt_of_cell? W _ hm, World.block_lt_of_cell? W _ c0, World.block_lt_of_cell? W _ c1⟩
theorem playBack_met (os : Os) (args : Array Value) : laidMetH Tryd.prog Rows.playBackRow.laid ((World.doorLaid Tryd.prog 400 os).forCall (fun _ _ => 0) ⟨#[], args, []⟩).memory := playReads_met os args
theorem playBack_facts {W : World} (h : laidMetH Tryd.prog Rows.playBackRow.laid W) (hsh : W.ShapedOpen Tryd.prog) : RedF W := playReads_facts h hsh
theorem playFixed_met (os : Os) (args : Array Value) : laidMetH Tryd.prog Rows.playFixedRow.laid ((World.doorLaid Tryd.prog 400 os).forCall (fun _ _ => 0) ⟨#[], args, []⟩).memory := playReads_met os args
theorem playFixed_facts {W : World} (h : laidMetH Tryd.prog Rows.playFixedRow.laid W) (hsh : W.ShapedOpen Tryd.prog) : RedF W := playReads_facts h hsh
end Go.Proofs.YtdeghndcglgfkaaDoor
