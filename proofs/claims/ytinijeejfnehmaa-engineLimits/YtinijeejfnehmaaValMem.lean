/-
  Rows of values.
-/
import Derived.Test.YtinijeejfnehmaaRowNew
import Derived.Test.YtinijeejfnehmaaTwoMem
namespace Go.Proofs.Ytinijeejfnehmaa
set_option maxRecDepth 100000
open Go.ChangeShapes Go.WideShapes Go.ChangeAt Go.RowKit

theorem Try.infoV : (Try.prog.info? 53).map (fun i => (i.zero, i.size, i.bytes)) = some (some (.agg #[.int .i64 0, .int .i64 0]), 2, 16) := by kernel_rfl
def kV : ElK Ml := ⟨encM, 2, 39, 53, 16, .agg #[.int .i64 0, .int .i64 0], Try.underlying39, Try.infoV, rfl, by decide, encM_len, encM_one⟩
end Go.Proofs.Ytinijeejfnehmaa
