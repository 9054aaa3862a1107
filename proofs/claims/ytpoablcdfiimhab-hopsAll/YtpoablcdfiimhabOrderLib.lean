/-
  Contracts of graph's inOrder, Sorted and Reverse.
-/
import Derived.Test.YtpoablcdfiimhabSortWalk
import Derived.Test.YtpoablcdfiimhabGraphTwo
namespace Go.Proofs.Ytpoablcdfiimhab
open Go.ChangeShapes Go.WideShapes Go.ChangeAt Go.RowKit

/-- From and To exchanged. -/
def turnE (e : Ed) : Ed := (e.2.1, e.1, e.2.2)
def sameE (e : Ed) : Ed := e
/-- What is answered where the graph is right, and where it is not. -/
def okN (f n : Int) : Int := if f = 0 then n else 0
def okL {α : Type} (f : Int) (l : List α) : List α := if f = 0 then l else []
theorem okN_yes {n : Int} : okN 0 n = n := rfl
theorem okL_yes {α : Type} {l : List α} : okL 0 l = l := rfl
theorem okN_no {f n : Int} (h : f ≠ 0) : okN f n = 0 := by rw [okN, if_neg h]
theorem okL_no {α : Type} {f : Int} {l : List α} (h : f ≠ 0) : okL f l = [] := by rw [okL, if_neg h]

set_option maxHeartbeats 400000 in
theorem same_any (x : Ed) (w : World) : Calls Try.prog 16 #[.agg #[.int .i64 x.1, .int .i64 x.2.1, .int .i64 x.2.2]] w fun e w' => e = .returned (.agg #[.int .i64 (sameE x).1, .int .i64 (sameE x).2.1, .int .i64 (sameE x).2.2]) ∧ Below w.heap.size w w' := by
  obtain ⟨a, b, c⟩ := x
  unfold sameE
  simp only
  go_enter Try.func16, Try.ntmps16
  go_wp2_with fail
  have hb := heap_second w (.cells #[.int .i64 a, .int .i64 b, .int .i64 c] 40) #[.int .i64 a, .int .i64 b, .int .i64 c] 40
  have r0 := fun j => cell_of_row _ _ j _ _ _ hb
  refine bodyPost_ret (v := .agg #[.int .i64 a, .int .i64 b, .int .i64 c]) (by simp [results, Try.results16, go_sem, r0]) rfl ⟨rfl, ?_⟩
  exact (below_alloc w _).alloc (by simp) _

set_option maxHeartbeats 400000 in
theorem turn_any (x : Ed) (w : World) : Calls Try.prog 13 #[.agg #[.int .i64 x.1, .int .i64 x.2.1, .int .i64 x.2.2]] w fun e w' => e = .returned (.agg #[.int .i64 (turnE x).1, .int .i64 (turnE x).2.1, .int .i64 (turnE x).2.2]) ∧ Below w.heap.size w w' := by
  obtain ⟨a, b, c⟩ := x
  unfold turnE
  simp only
  go_enter Try.func13, Try.ntmps13
  go_wp2_with fail
  have hb := heap_second w (.cells #[.int .i64 a, .int .i64 b, .int .i64 c] 40) #[.int .i64 b, .int .i64 a, .int .i64 c] 40
  have r0 := fun j => cell_of_row _ _ j _ _ _ hb
  refine bodyPost_ret (v := .agg #[.int .i64 b, .int .i64 a, .int .i64 c]) (by simp [results, Try.results13, go_sem, r0]) rfl ⟨rfl, ?_⟩
  exact (below_alloc w _).alloc (by simp) _
end Go.Proofs.Ytpoablcdfiimhab
