/-
  append on rows of edges.
-/
import Derived.Test.YtbmkgnlfccigpaaGreatRowMem
import Derived.Test.YtbmkgnlfccigpaaGreatRowNew
namespace Go.Proofs.YtbmkgnlfccigpaaGreat
set_option maxRecDepth 100000
open Go.ChangeShapes Go.WideShapes Go.ChangeAt Go.RowKit

def kE : ElK Ed := ⟨encE, 3, 23, 44, 24, .agg #[.int .i64 0, .int .i64 0, .int .i64 0], Tryz.underlying23, Tryz.infoE, rfl, by decide, encE_len, encE_one⟩
end Go.Proofs.YtbmkgnlfccigpaaGreat
