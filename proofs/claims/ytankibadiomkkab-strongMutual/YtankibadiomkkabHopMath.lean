/-
  The hops from a vertex, in plain mathematics.
-/
import Derived.Test.YtankibadiomkkabRowMem
namespace Go.Proofs.Ytankibadiomkkab
set_option maxRecDepth 100000

/-- To and Weight of the edges from v, as they stand. -/
def hopsL (es : List Ed) (v : Int) : List Hp := (es.filter fun e => e.1 == v).map fun e => (e.2.1, e.2.2)
theorem hops_yes {es : List Ed} {k : Nat} {x : Ed} {v : Int} (hx : es[k]? = some x) (h : (x.1 == v) = true) : hopsL (es.take (k + 1)) v = hopsL (es.take k) v ++ [(x.2.1, x.2.2)] := by
  unfold hopsL
  rw [take_snoc hx, List.filter_append, List.map_append]
  simp [h]
theorem hops_no {es : List Ed} {k : Nat} {x : Ed} {v : Int} (hx : es[k]? = some x) (h : (x.1 == v) = false) : hopsL (es.take (k + 1)) v = hopsL (es.take k) v := by
  unfold hopsL
  rw [take_snoc hx, List.filter_append, List.map_append]
  simp [h]
theorem hops_len (es : List Ed) (v : Int) : (hopsL es v).length ≤ es.length := by
  unfold hopsL
  rw [List.length_map]
  exact List.length_filter_le _ _
end Go.Proofs.Ytankibadiomkkab
