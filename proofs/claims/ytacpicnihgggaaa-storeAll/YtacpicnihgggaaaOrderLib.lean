/-
  Contracts of graph's inOrder, Sorted and Reverse.
-/
import Derived.Test.YtacpicnihgggaaaSortWalk
import Derived.Test.YtacpicnihgggaaaGraphTwo
namespace Go.Proofs.Ytacpicnihgggaaa
set_option maxRecDepth 100000
open Go.ChangeShapes Go.WideShapes Go.ChangeAt Go.RowKit

/-- From and To exchanged. -/
def turnE (e : Ed) : Ed := (e.2.1, e.1, e.2.2)
def sameE (e : Ed) : Ed := e

set_option maxHeartbeats 400000 in
theorem same_any (x : Ed) (w : World) : Calls Try.prog 47 #[.agg #[.int .i64 x.1, .int .i64 x.2.1, .int .i64 x.2.2]] w fun e w' => e = .returned (.agg #[.int .i64 (sameE x).1, .int .i64 (sameE x).2.1, .int .i64 (sameE x).2.2]) ∧ Below w.heap.size w w' := by
  obtain ⟨a, b, c⟩ := x
  unfold sameE
  simp only
  go_enter Try.func47, Try.ntmps47
  go_wp2_with fail
  have hb := heap_second w (.cells #[.int .i64 a, .int .i64 b, .int .i64 c] 67) #[.int .i64 a, .int .i64 b, .int .i64 c] 67
  have r0 := fun j => cell_of_row _ _ j _ _ _ hb
  refine bodyPost_ret (v := .agg #[.int .i64 a, .int .i64 b, .int .i64 c]) (by simp [results, Try.results47, go_sem, r0]) rfl ⟨rfl, ?_⟩
  exact (below_alloc w _).alloc (by simp) _

set_option maxHeartbeats 400000 in
theorem turn_any (x : Ed) (w : World) : Calls Try.prog 44 #[.agg #[.int .i64 x.1, .int .i64 x.2.1, .int .i64 x.2.2]] w fun e w' => e = .returned (.agg #[.int .i64 (turnE x).1, .int .i64 (turnE x).2.1, .int .i64 (turnE x).2.2]) ∧ Below w.heap.size w w' := by
  obtain ⟨a, b, c⟩ := x
  unfold turnE
  simp only
  go_enter Try.func44, Try.ntmps44
  go_wp2_with fail
  have hb := heap_second w (.cells #[.int .i64 a, .int .i64 b, .int .i64 c] 67) #[.int .i64 b, .int .i64 a, .int .i64 c] 67
  have r0 := fun j => cell_of_row _ _ j _ _ _ hb
  refine bodyPost_ret (v := .agg #[.int .i64 b, .int .i64 a, .int .i64 c]) (by simp [results, Try.results44, go_sem, r0]) rfl ⟨rfl, ?_⟩
  exact (below_alloc w _).alloc (by simp) _
end Go.Proofs.Ytacpicnihgggaaa
