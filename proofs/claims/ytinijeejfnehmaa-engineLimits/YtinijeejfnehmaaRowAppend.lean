/-
  append on rows of edges.
-/
import Derived.Test.YtinijeejfnehmaaRowMem
import Derived.Test.YtinijeejfnehmaaRowNew
namespace Go.Proofs.Ytinijeejfnehmaa
set_option maxRecDepth 100000
open Go.ChangeShapes Go.WideShapes Go.ChangeAt Go.RowKit

def kE : ElK Ed := ⟨encE, 3, 22, 61, 24, .agg #[.int .i64 0, .int .i64 0, .int .i64 0], Try.underlying22, Try.infoE, rfl, by decide, encE_len, encE_one⟩
end Go.Proofs.Ytinijeejfnehmaa
