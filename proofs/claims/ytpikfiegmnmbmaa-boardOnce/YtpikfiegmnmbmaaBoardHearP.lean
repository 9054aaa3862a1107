/-
  What Hear answers (P15.4).
-/
import Derived.Test.YtpikfiegmnmbmaaBoardMem
import Derived.Test.YtpikfiegmnmbmaaBoardStands
import Derived.Test.YtpikfiegmnmbmaaBoardCame
namespace Go.Proofs.Ytpikfiegmnmbmaa
set_option maxRecDepth 100000
open Go.ChangeShapes Go.WideShapes Go.ChangeAt Go.RowKit

/-- What Hear answers: a board and an error. -/
def BhrP (w : World) (B : BdL) (f : Int) (e : Ending) (w' : World) : Prop := ∃ vr, e = .returned (.tuple #[.agg #[.int .i64 B.workers, .int .i64 B.epoch, .int .i64 B.step, vr], .int .i64 f]) ∧ OwnR w' w.heap.size vr B.reps ∧ Below w.heap.size w w'
theorem heE_no {b : BdL} {r : RpL} (h : mayBd b = false) : heE b r = 9 := by rw [heE, if_neg (by rw [h]; decide)]
theorem heE_st {b : BdL} {r : RpL} (h : mayBd b = true) (h2 : stE b r ≠ 0) : heE b r = stE b r := by rw [heE, if_pos h, if_neg h2]
theorem heE_two {b : BdL} {r : RpL} (h : mayBd b = true) (h2 : stE b r = 0) (h3 : byB b.reps r.worker = true) : heE b r = 8 := by rw [heE, if_pos h, if_pos h2, if_pos h3]
theorem heE_yes {b : BdL} {r : RpL} (h : mayBd b = true) (h2 : stE b r = 0) (h3 : byB b.reps r.worker = false) : heE b r = 0 := by rw [heE, if_pos h, if_pos h2, if_neg (by rw [h3]; decide)]
theorem BhrP.no {w w' : World} {b : BdL} {r : RpL} {f : Int} (h : heE b r = f) (hf : f ≠ 0) (hb : Below w.heap.size w w') : BhrP w (heB b r) (heE b r) (.returned (.tuple #[.agg #[.int .i64 0, .int .i64 0, .int .i64 0, .slice none 0 0], .int .i64 f])) w' := by
  have e : heB b r = bd0 := by rw [heB, if_neg (by rw [h]; exact hf)]
  rw [e, h]
  exact ⟨_, rfl, OwnR.nil _ _, hb⟩
theorem BhrP.yes {w w' : World} {b : BdL} {r : RpL} {v : Value} (h : heE b r = 0) (ho : OwnR w' w.heap.size v (b.reps ++ [r])) (hb : Below w.heap.size w w') : BhrP w (heB b r) (heE b r) (.returned (.tuple #[.agg #[.int .i64 b.workers, .int .i64 b.epoch, .int .i64 b.step, v], .int .i64 0])) w' := by
  have e : heB b r = ⟨b.workers, b.epoch, b.step, b.reps ++ [r]⟩ := by rw [heB, if_pos h]
  rw [e, h]
  exact ⟨_, rfl, ho, hb⟩

end Go.Proofs.Ytpikfiegmnmbmaa
