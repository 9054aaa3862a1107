/-
  A number between two bounds, as a test.
-/
import Derived.Test.YtbmkgnlfccigpabRowBase
namespace Go.Proofs.Ytbmkgnlfccigpab
set_option maxRecDepth 100000
open Go.ChangeShapes Go.WideShapes Go.ChangeAt Go.RowKit

def inB (v a b : Int) : Bool := decide (a ≤ v) && decide (v ≤ b)
end Go.Proofs.Ytbmkgnlfccigpab
