/-
  A graph with each of its edges the other way, too: memory and mathematics.
-/
import Derived.Test.YtankibadiomkkaaLeastMath
import Derived.Test.YtankibadiomkkaaKeepRows
import Derived.Test.YtankibadiomkkaaRowAppend
namespace Go.Proofs.Ytankibadiomkkaa
set_option maxRecDepth 100000
open Go.ChangeShapes Go.WideShapes Go.ChangeAt Go.RowKit

/-- A slice of two new edges. -/
theorem own_twoE (w : World) (base : Nat) (hb : base ≤ w.heap.size) (x y : Ed) :
    (w.alloc (.cells #[.int .i64 x.1, .int .i64 x.2.1, .int .i64 x.2.2, .int .i64 y.1, .int .i64 y.2.1, .int .i64 y.2.2] 43)).ownsRow base 43 3 (.slice (some ⟨w.heap.size, 0, none⟩) 2 2) ([x, y] : List Ed).length (([x, y] : List Ed).flatMap encE) :=
  ⟨by simp [encE], .inr ⟨w.heap.size, 2, #[.int .i64 x.1, .int .i64 x.2.1, .int .i64 x.2.2, .int .i64 y.1, .int .i64 y.2.1, .int .i64 y.2.2], rfl, hb, heap_alloc_new w _, by simp, by simp [maxLen], by simp, by simp [encE]⟩⟩
theorem both_right {m : Nat} {es : List Ed} (h : faultE (m : Int) es = 0) (hl : es.length ≤ 10) : faultE (m : Int) (bothI es) = 0 := by
  obtain ⟨h0, h1, _, h3⟩ := fault_ok h
  refine ok_fault h0 h1 (by rw [bothI_len]; omega) fun e he => ?_
  unfold bothI at he
  obtain ⟨d, hd, he⟩ := List.mem_flatMap.1 he
  have := in_of_out (h3 d hd)
  simp only [List.mem_cons, List.not_mem_nil, or_false] at he
  rcases he with rfl | rfl
  · exact h3 _ hd
  · exact out_of_in ⟨this.2.2.1, this.2.2.2.1⟩ ⟨this.1, this.2.1⟩ ⟨this.2.2.2.2.1, this.2.2.2.2.2⟩
end Go.Proofs.Ytankibadiomkkaa
