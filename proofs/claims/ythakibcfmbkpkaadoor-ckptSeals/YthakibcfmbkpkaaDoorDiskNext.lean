/-
  The file that is written; what a call that changes a disk answers.
-/
import Derived.Test.YthakibcfmbkpkaaDoorDiskMath
namespace Go.Proofs.YthakibcfmbkpkaaDoor
set_option maxRecDepth 100000
open Go.ChangeShapes Go.WideShapes Go.ChangeAt Go.RowKit

/-- The file that is written. -/
def nxt : ByteArray := ⟨#[110, 101, 120, 116]⟩
theorem nxt_size : nxt.size ≤ maxLen := by decide
/-- A disk that is answered, and an error. -/
def DskP (w : World) (r : List FileL × Int) (e : Ending) (w' : World) : Prop := ∃ v', e = .returned (.tuple #[.agg #[v'], .int .i64 r.2]) ∧ DiskR w' v' r.1 ∧ Below w.heap.size w w'
end Go.Proofs.YthakibcfmbkpkaaDoor
