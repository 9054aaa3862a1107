/-
  Rows of values.
-/
import Derived.Test.YtbfkmakfkbdafaaRowNew
import Derived.Test.YtbfkmakfkbdafaaTwoMem
namespace Go.Proofs.Ytbfkmakfkbdafaa
set_option maxRecDepth 100000
open Go.ChangeShapes Go.WideShapes Go.ChangeAt Go.RowKit

theorem Try.infoV : (Try.prog.info? 52).map (fun i => (i.zero, i.size, i.bytes)) = some (some (.agg #[.int .i64 0, .int .i64 0]), 2, 16) := by kernel_rfl
def kV : ElK Ml := ⟨encM, 2, 22, 52, 16, .agg #[.int .i64 0, .int .i64 0], Try.underlying22, Try.infoV, rfl, by decide, encM_len, encM_one⟩
end Go.Proofs.Ytbfkmakfkbdafaa
