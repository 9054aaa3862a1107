/-
  append on rows of edges.
-/
import Derived.Test.YtacpicnihgggaaaRowMem
import Derived.Test.YtacpicnihgggaaaRowNew
namespace Go.Proofs.Ytacpicnihgggaaa
open Go.ChangeShapes Go.WideShapes Go.ChangeAt Go.RowKit

def kE : ElK Ed := ⟨encE, 3, 22, 67, 24, .agg #[.int .i64 0, .int .i64 0, .int .i64 0], Try.underlying22, Try.infoE, rfl, by decide, encE_len, encE_one⟩
end Go.Proofs.Ytacpicnihgggaaa
