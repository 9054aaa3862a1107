/-
  Two boxes.
-/
import Derived.Test.YtdhaccljidhdcabDiskOwn
import Derived.Test.YtdhaccljidhdcabAppendRun
namespace Go.Proofs.Ytdhaccljidhdcab
open Go.ChangeShapes Go.WideShapes Go.ChangeAt Go.RowKit
theorem below_two {w w' : World} {o1 o2 : Obj} (h : Below (w.heap.size + 2) ((w.alloc o1).alloc o2) w') : Below w.heap.size w w' :=
  ((below_alloc w o1).alloc (by simp) o2).trans (h.mono (by omega))

end Go.Proofs.Ytdhaccljidhdcab
