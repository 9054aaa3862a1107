/-
  Contract of the document's own In.
-/
import Derived.Test.YtdeghndcglgfkaaDoorRowBase
namespace Go.Proofs.YtdeghndcglgfkaaDoor
set_option maxRecDepth 100000
open Go.ChangeShapes Go.WideShapes Go.ChangeAt Go.RowKit

def inB (v a b : Int) : Bool := decide (a ≤ v) && decide (v ≤ b)
set_option maxHeartbeats 400000 in
theorem in_any (v a b : Int) (w : World) :
    Calls Tryd.prog 26 #[.int .i64 v, .int .i64 a, .int .i64 b] w fun e w' => e = .returned (.bool (inB v a b)) ∧ w' = w := by
  unfold inB
  by_cases h0 : a ≤ v
  · by_cases h1 : v ≤ b
    · have e1 : decide (v ≤ b) = true := by simpa using h1
      have e0 : decide (a ≤ v) = true := by simpa using h0
      rw [e0, e1]
      go_enter Tryd.func26, Tryd.ntmps26
      go_wp2
      go_ret
      exact ⟨rfl, rfl⟩
    · have e1 : decide (v ≤ b) = false := by simpa using h1
      have e0 : decide (a ≤ v) = true := by simpa using h0
      rw [e0, e1]
      go_enter Tryd.func26, Tryd.ntmps26
      go_wp2
      go_ret
      exact ⟨rfl, rfl⟩
  · have e0 : decide (a ≤ v) = false := by simpa using h0
    rw [e0]
    go_enter Tryd.func26, Tryd.ntmps26
    go_wp2
    go_ret
    exact ⟨rfl, rfl⟩

theorem in_yes {v a b : Int} (h : a ≤ v ∧ v ≤ b) : inB v a b = true := by simp [inB, h.1, h.2]
theorem in_no {v a b : Int} (h : ¬ (a ≤ v ∧ v ≤ b)) : inB v a b = false := by
  unfold inB
  by_cases h1 : a ≤ v
  · have h2 : ¬ v ≤ b := fun h2 => h ⟨h1, h2⟩
    simp [h1, h2]
  · simp [h1]
end Go.Proofs.YtdeghndcglgfkaaDoor
