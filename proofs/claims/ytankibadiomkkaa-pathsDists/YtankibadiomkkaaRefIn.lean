/-
  The document's In, at the bounds of a vertex.
-/
import Derived.Test.YtankibadiomkkaaInWalk
namespace Go.Proofs.Ytankibadiomkkaa
set_option maxRecDepth 100000

theorem inB_v {s n : Int} : inB s 0 (n - 1) = decide (0 ≤ s ∧ s < n) := by
  by_cases h : 0 ≤ s ∧ s < n
  · rw [in_yes (by omega), decide_eq_true h]
  · rw [in_no (by omega), decide_eq_false h]
end Go.Proofs.Ytankibadiomkkaa
