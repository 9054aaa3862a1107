/-
  A struct of four cells in a box, stored as a whole.
-/
import Derived.Test.YtpikfiegmnmbmaaBoxMem
namespace Go.Proofs.Ytpikfiegmnmbmaa
set_option maxRecDepth 100000
open Go.ChangeShapes Go.WideShapes Go.ChangeAt Go.RowKit

/-- A whole store into a box of four cells. -/
def put4 (w : World) (q : Nat) (a b c d : Value) : World := (((w.setCell ⟨q, 0, none⟩ a).setCell ⟨q, 1, none⟩ b).setCell ⟨q, 2, none⟩ c).setCell ⟨q, 3, none⟩ d
theorem BX.put4 {t : TypeId} {w : World} {q : Nat} {a b c d x1 x2 x3 x4 : Value} (h : BX t w q #[a, b, c, d]) : BX t (Go.Proofs.Ytpikfiegmnmbmaa.put4 w q x1 x2 x3 x4) q #[x1, x2, x3, x4] := (((h.set 0 x1).set 1 x2).set 2 x3).set 3 x4
theorem kept_put4 (w : World) (q : Nat) (a b c d : Value) : Kept (fun k => k = q) w (Go.Proofs.Ytpikfiegmnmbmaa.put4 w q a b c d) := (((Kept.box _ _ _ _).trans (Kept.box _ _ _ _)).trans (Kept.box _ _ _ _)).trans (Kept.box _ _ _ _)
end Go.Proofs.Ytpikfiegmnmbmaa
