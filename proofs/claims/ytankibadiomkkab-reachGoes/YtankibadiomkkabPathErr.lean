/-
  P12: which error; lists of numbers and of bools that are answered.
-/
import Derived.Test.YtankibadiomkkabPathLists
import Derived.Test.YtankibadiomkkabRowNew
import Derived.Test.YtankibadiomkkabBoolRow
namespace Go.Proofs.Ytankibadiomkkab
set_option maxRecDepth 100000
open Go.ChangeShapes Go.WideShapes Go.ChangeAt Go.RowKit

/-- P12.1, P12.3: the error. -/
def errV (n : Int) (es : List Ed) (s : Int) : Int := if faultE n es = 0 then (if 0 ≤ s ∧ s < n then 0 else 2) else faultE n es
theorem errV_bad {n s : Int} {es : List Ed} (h : faultE n es ≠ 0) : errV n es s = faultE n es := by rw [errV, if_neg h]
theorem errV_out {n s : Int} {es : List Ed} (h : faultE n es = 0) (hs : ¬ (0 ≤ s ∧ s < n)) : errV n es s = 2 := by rw [errV, if_pos h, if_neg hs]
theorem errV_ok {n s : Int} {es : List Ed} (h : faultE n es = 0) (hs : 0 ≤ s ∧ s < n) : errV n es s = 0 := by rw [errV, if_pos h, if_pos hs]
theorem in_fault {m : Nat} {es : List Ed} (h : faultE (m : Int) es = 0) : InG m es := fun e he => by
  have := in_of_out ((fault_ok h).2.2.2 e he)
  exact ⟨this.1, this.2.1, this.2.2.1, this.2.2.2.1, this.2.2.2.2.1⟩
/-- A list of numbers and an error. -/
def NumP (w : World) (f : Int) (l : List Int) (e : Ending) (w' : World) : Prop :=
  ∃ v', e = .returned (.tuple #[v', .int .i64 f]) ∧ w'.ownsRow w.heap.size 3 1 v' (okL f l).length ((okL f l).flatMap encI) ∧ Below w.heap.size w w'
theorem NumP.no {w w' : World} {f : Int} {l : List Int} (hf : f ≠ 0) (hb : Below w.heap.size w w') : NumP w f l (.returned (.tuple #[.slice none 0 0, .int .i64 f])) w' :=
  ⟨_, rfl, by rw [okL_no hf]; exact World.ownsRow_nil _ _ _ _, hb⟩
theorem NumP.yes {w w' : World} {l : List Int} {v : Value} (h : w'.ownsRow w.heap.size 3 1 v l.length (l.flatMap encI)) (hb : Below w.heap.size w w') : NumP w 0 l (.returned (.tuple #[v, .int .i64 0])) w' := ⟨_, rfl, h, hb⟩
/-- A list of bools and an error. -/
def BolP (w : World) (f : Int) (l : List Bool) (e : Ending) (w' : World) : Prop :=
  ∃ v', e = .returned (.tuple #[v', .int .i64 f]) ∧ w'.ownsRow w.heap.size 4 1 v' (okL f l).length ((okL f l).flatMap encT) ∧ Below w.heap.size w w'
theorem BolP.no {w w' : World} {f : Int} {l : List Bool} (hf : f ≠ 0) (hb : Below w.heap.size w w') : BolP w f l (.returned (.tuple #[.slice none 0 0, .int .i64 f])) w' :=
  ⟨_, rfl, by rw [okL_no hf]; exact World.ownsRow_nil _ _ _ _, hb⟩
theorem BolP.yes {w w' : World} {l : List Bool} {v : Value} (h : w'.ownsRow w.heap.size 4 1 v l.length (l.flatMap encT)) (hb : Below w.heap.size w w') : BolP w 0 l (.returned (.tuple #[v, .int .i64 0])) w' := ⟨_, rfl, h, hb⟩
end Go.Proofs.Ytankibadiomkkab
