/-
  An edge turned; contract of Reverse's closure.
-/
import Derived.Test.YtankibadiomkkabSortWalk
import Derived.Test.YtankibadiomkkabGraphTwo
namespace Go.Proofs.Ytankibadiomkkab
set_option maxRecDepth 100000
open Go.ChangeShapes Go.WideShapes Go.ChangeAt Go.RowKit

/-- From and To exchanged. -/
def turnE (e : Ed) : Ed := (e.2.1, e.1, e.2.2)
def sameE (e : Ed) : Ed := e

set_option maxHeartbeats 400000 in
theorem turn_any (x : Ed) (w : World) : Calls Try.prog 15 #[.agg #[.int .i64 x.1, .int .i64 x.2.1, .int .i64 x.2.2]] w fun e w' => e = .returned (.agg #[.int .i64 (turnE x).1, .int .i64 (turnE x).2.1, .int .i64 (turnE x).2.2]) ∧ Below w.heap.size w w' := by
  obtain ⟨a, b, c⟩ := x
  unfold turnE
  simp only
  go_enter Try.func15, Try.ntmps15
  go_wp2_with fail
  have hb := heap_second w (.cells #[.int .i64 a, .int .i64 b, .int .i64 c] 37) #[.int .i64 b, .int .i64 a, .int .i64 c] 37
  have r0 := fun j => cell_of_row _ _ j _ _ _ hb
  refine bodyPost_ret (v := .agg #[.int .i64 b, .int .i64 a, .int .i64 c]) (by simp [results, Try.results15, go_sem, r0]) rfl ⟨rfl, ?_⟩
  exact (below_alloc w _).alloc (by simp) _
end Go.Proofs.Ytankibadiomkkab
