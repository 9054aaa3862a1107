/-
  P4.4 in plain mathematics: the hops from a vertex.
-/
import Derived.Test.YtacpicnihgggaaaOrderWalk
import Derived.Test.YtacpicnihgggaaaRowAt
namespace Go.Proofs.Ytacpicnihgggaaa
set_option maxRecDepth 100000
open Go.ChangeShapes Go.WideShapes Go.ChangeAt Go.RowKit

/-- To and Weight of the edges from v, as they stand. -/
def hopsL (es : List Ed) (v : Int) : List Hp := (es.filter fun e => e.1 == v).map fun e => (e.2.1, e.2.2)
/-- P4.4: the error. -/
def errH (n : Int) (es : List Ed) (v : Int) : Int := if faultE n es = 0 then (if insB n v = true then 0 else 2) else faultE n es
theorem errH_fault {n : Int} {es : List Ed} {v : Int} (h : faultE n es ≠ 0) : errH n es v = faultE n es := by rw [errH, if_neg h]
theorem errH_out {n : Int} {es : List Ed} {v : Int} (h : faultE n es = 0) (hi : insB n v = false) : errH n es v = 2 := by rw [errH, if_pos h, hi]; rfl
theorem errH_ok {n : Int} {es : List Ed} {v : Int} (h : faultE n es = 0) (hi : insB n v = true) : errH n es v = 0 := by rw [errH, if_pos h, hi]; rfl
theorem hops_yes {es : List Ed} {k : Nat} {x : Ed} {v : Int} (hx : es[k]? = some x) (h : (x.1 == v) = true) : hopsL (es.take (k + 1)) v = hopsL (es.take k) v ++ [(x.2.1, x.2.2)] := by
  unfold hopsL
  rw [take_snoc hx, List.filter_append, List.map_append]
  simp [h]
theorem hops_no {es : List Ed} {k : Nat} {x : Ed} {v : Int} (hx : es[k]? = some x) (h : (x.1 == v) = false) : hopsL (es.take (k + 1)) v = hopsL (es.take k) v := by
  unfold hopsL
  rw [take_snoc hx, List.filter_append, List.map_append]
  simp [h]
theorem hops_len (es : List Ed) (v : Int) : (hopsL es v).length ≤ es.length := by
  unfold hopsL
  rw [List.length_map]
  exact List.length_filter_le _ _
end Go.Proofs.Ytacpicnihgggaaa
