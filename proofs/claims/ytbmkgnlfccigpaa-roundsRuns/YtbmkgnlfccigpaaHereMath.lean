/-
  Strong, Back: is the vertex's colour among the mail; what becomes of its value.
-/
import Derived.Test.YtbmkgnlfccigpaaProgMath
namespace Go.Proofs.Ytbmkgnlfccigpaa
set_option maxRecDepth 100000
open Go.ChangeShapes Go.WideShapes Go.ChangeAt Go.RowKit

/-- Is it the vertex itself (fresh), or some of the mail (else). -/
def hereB (b : Bool) (x : Ml) (v : Int) (l : List Int) : Bool := (b && (x.1 == v)) || (!b && hasB l x.1)
theorem hasB_snoc {m : List Int} {k : Nat} {y z : Int} (h : m[k]? = some y) : hasB (m.take (k + 1)) z = (hasB (m.take k) z || (y == z)) := by
  unfold hasB
  rw [take_snoc h, List.any_append]
  simp
theorem labF_of {x : Ml} {t : Bool} (ht : t = true) : labF x t = ((x.1, x.1), true) := by subst ht; rfl
theorem labF_no {x : Ml} {t : Bool} (ht : t = false) : labF x t = (x, false) := by subst ht; rfl
theorem back_eq {v s : Int} {x : Ml} {b : Bool} {m : List Int} (hl : x.2 = -1) : wakeV (true, true) v s x b m = labF x (hereB b x v m) := by
  cases b
  · show hearF (true, true) x m = _
    unfold hearF hereB
    simp only
    rw [if_pos hl]
    simp
  · show beginF (true, true) v s x = _
    unfold beginF hereB
    simp only
    rw [if_pos hl]
    simp
theorem strong_stays {p : Bool} {v s : Int} {x : Ml} {b : Bool} {m : List Int} (hl : ¬ x.2 = -1) : wakeV (true, p) v s x b m = ((x.1, x.2), false) := by
  cases b
  · show hearF (true, p) x m = _
    unfold hearF; cases p <;> (simp only; rw [if_neg hl])
  · show beginF (true, p) v s x = _
    unfold beginF; cases p <;> (simp only; rw [if_neg hl])
end Go.Proofs.Ytbmkgnlfccigpaa
