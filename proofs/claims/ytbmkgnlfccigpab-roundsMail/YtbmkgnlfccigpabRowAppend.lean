/-
  append on rows of edges.
-/
import Derived.Test.YtbmkgnlfccigpabRowMem
import Derived.Test.YtbmkgnlfccigpabRowNew
namespace Go.Proofs.Ytbmkgnlfccigpab
set_option maxRecDepth 100000
open Go.ChangeShapes Go.WideShapes Go.ChangeAt Go.RowKit

def kE : ElK Ed := ⟨encE, 3, 23, 50, 24, .agg #[.int .i64 0, .int .i64 0, .int .i64 0], Try.underlying23, Try.infoE, rfl, by decide, encE_len, encE_one⟩
end Go.Proofs.Ytbmkgnlfccigpab
