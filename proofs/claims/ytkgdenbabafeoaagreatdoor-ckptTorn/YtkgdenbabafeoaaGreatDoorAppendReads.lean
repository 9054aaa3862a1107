/-
  'append(s, x...)' of bytes, as a law for the walk: s is the call's own, x reads as some bytes (nil or not); a new array of four bytes reads as them.
-/
import Derived.Test.YtkgdenbabafeoaaGreatDoorSame
import Derived.Laws.AppendOwnNone
namespace Go.Proofs.YtkgdenbabafeoaaGreatDoor
set_option maxRecDepth 100000
open Go.ChangeShapes Go.WideShapes Go.ChangeAt Go.RowKit

end Go.Proofs.YtkgdenbabafeoaaGreatDoor
