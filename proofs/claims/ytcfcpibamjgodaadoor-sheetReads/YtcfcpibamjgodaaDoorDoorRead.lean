/-
  What the list of the laws that read gives, and a world that meets it.
-/
import Derived.Test.YtcfcpibamjgodaaDoorDoorLib
import Derived.Test.YtcfcpibamjgodaaDoorReadWalk
import Derived.PinnedBridge
import Derived.Shelf.Vars
import Derived.Stop.LaidErr
namespace Go.Proofs.YtcfcpibamjgodaaDoor
set_option maxRecDepth 100000
open Go.ChangeShapes Go.WideShapes Go.ChangeAt Go.RowKit

/-- A world, with the library's table that the text lays by name alone. -/
def pinOn (w0 : World) : World :=
  { w0 with heap := w0.heap.modify 6 fun
      | .cells _ t fz => .cells (Lib.firstTab.map (Value.int .u8)).toArray t fz
      | o => o }
theorem reads_met (os : Os) (args : Array Value) : laidMetH Tryd.prog Rows.sheetReadsRow.laid ((pinOn (World.doorLaid Tryd.prog 400 os)).forCall (fun _ _ => 0) ⟨#[], args, []⟩).memory :=
  laidMetH_of_parts3 (fuel := 8) (laidMet_of_run' 8 (by kernel_rfl) (by kernel_rfl)) (by kernel_rfl) (by kernel_rfl)

theorem starErr : "*" ++ "errors.errorString" = "*errors.errorString" := by decide
theorem Tryd.rowErr (u : TypeId) (h : Tryd.prog.typeName? 3 u = some "*errors.errorString") : u = 110 :=
  typeName_ptr_named (nm := "errors.errorString") (by rw [starErr]; kernel_rfl) (by kernel_rfl) (by decide) u (by rw [starErr]; exact h)
theorem cell_var {W : World} {name : String} {g : Nat} {v : Value} (hg : Tryd.prog.globalNamed name = some g) (h : W.var? Tryd.prog name = some #[v]) : W.cell? ⟨g, 0, none⟩ = some v := by
  have := World.var?_cell hg h 0
  simpa using this
/-- What the walks ask of the first world. -/
def ReadF (w : World) : Prop := VarF w.heap.size w
theorem reads_facts {W : World} (h : laidMetH Tryd.prog Rows.sheetReadsRow.laid W) (hsh : W.ShapedOpen Tryd.prog) : ReadF W := by
  rw [MakeChecks.laidMetH_plain _ _ _ (by kernel_rfl)] at h
  have h2 := laidMet.tail (laidMet.tail h)
  have h4 := laidMet.tail (laidMet.tail h2)
  have h5 := laidMet.tail h4
  obtain ⟨a1, s1, hv1, -, -, -⟩ := laid_sentinel (g := 3) (ti := 41) (tp := 110) (te := 112) (ts := 9) h4 (by kernel_rfl) (by kernel_rfl) Tryd.underlying41 Tryd.rowErr Tryd.underlying110 Tryd.underlying112 rfl rfl Tryd.underlying9 (by kernel_rfl) (by kernel_rfl)
  obtain ⟨a0, s0, hv0, -, -, -⟩ := laid_sentinel (g := 2) (ti := 41) (tp := 110) (te := 112) (ts := 9) h5 (by kernel_rfl) (by kernel_rfl) Tryd.underlying41 Tryd.rowErr Tryd.underlying110 Tryd.underlying112 rfl rfl Tryd.underlying9 (by kernel_rfl) (by kernel_rfl)
  have c1 := cell_var (g := 3) (by kernel_rfl) hv1
  have c0 := cell_var (g := 2) (by kernel_rfl) hv0
  have hmx : ∃ m, W.cell? ⟨1, 0, none⟩ = some (.int .i64 m) := cell_of_shapedOpen_int (t := 3) (zero := #[.int .i64 0]) hsh (by decide +kernel) (by kernel_rfl) rfl (by kernel_rfl) (by kernel_rfl) Tryd.underlying3
  have hlt : 3 < W.heap.size := World.block_lt_of_cell? W _ c1
  exact ⟨hmx, ⟨_, _, c0⟩, ⟨_, _, c1⟩, tab10_of h2, hlt⟩
end Go.Proofs.YtcfcpibamjgodaaDoor
