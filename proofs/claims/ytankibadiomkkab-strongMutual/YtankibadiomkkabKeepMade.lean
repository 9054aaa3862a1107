/-
  A graph that is made of ways is right, and small.
-/
import Derived.Test.YtankibadiomkkabMadeWalk
namespace Go.Proofs.Ytankibadiomkkab
set_option maxRecDepth 100000
open Go.ChangeShapes Go.WideShapes Go.ChangeAt Go.RowKit

theorem made_len (N : Int) (ws : List Ed) : (madeL N ws).length ≤ 10 := by simp [madeL]; omega
theorem made_right {N : Int} {ws : List Ed} (h0 : 0 < N) (h1 : N ≤ 200) : faultE N (madeL N ws) = 0 := by
  refine ok_fault (by omega) h1 (by have := made_len N ws; omega) fun e he => ?_
  unfold madeL at he
  obtain ⟨x, _, rfl⟩ := List.mem_map.1 he
  have a := pickF_bd x.1 N h0
  have b := pickF_bd x.2.1 N h0
  have c := pickF_bd x.2.2 10 (by omega)
  refine out_of_in a b ?_
  show 0 ≤ pickF x.2.2 10 ∧ pickF x.2.2 10 ≤ 1099511627776
  omega
end Go.Proofs.Ytankibadiomkkab
