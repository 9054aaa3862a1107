/-
  Rows of numbers of the call's own: a number in them, a store into them.
-/
import Derived.Test.YtpikfiegmnmbmaaRowNew
namespace Go.Proofs.Ytpikfiegmnmbmaa
set_option maxRecDepth 100000
open Go.ChangeShapes Go.WideShapes Go.ChangeAt Go.RowKit

theorem own_setN {w : World} {base g n cap j : Nat} {xs : List Int} {x : Int} (h : w.ownsRow base 3 1 (.slice (some ⟨g, 0, none⟩) n cap) n (xs.flatMap encI)) : (w.setCell ⟨g, j, none⟩ (.int .i64 x)).ownsRow base 3 1 (.slice (some ⟨g, 0, none⟩) n cap) n ((xs.set j x).flatMap encI) := by
  have := own_setRow (j := j) (x := .int .i64 x) h
  rw [flatI] at this ⊢
  rwa [List.map_set]
theorem own_atN {w : World} {base g n cap : Nat} {xs : List Int} (h : w.ownsRow base 3 1 (.slice (some ⟨g, 0, none⟩) n cap) n (xs.flatMap encI)) {i : Nat} {x : Int} (hx : xs[i]? = some x) : w.cell? ⟨g, i, none⟩ = some (.int .i64 x) := by
  have := h.cells rfl i (.int .i64 x) (by rw [flatI, List.getElem?_map, hx]; rfl)
  rwa [addr_add] at this
end Go.Proofs.Ytpikfiegmnmbmaa
