/-
  A region that draws its order: two operations may come up; a call that makes memory.
-/
import Derived.Test.YtdeghndcglgfkaaDoorRegionLast
namespace Go.Proofs.YtdeghndcglgfkaaDoor
set_option maxRecDepth 100000
open Go.RowKit
section
variable {P : Program} {md : Region.Mode} {ops : Array Oper} {Q : Exit → Act → World → Prop}

/-- Just two may come up, and each is carried out. -/
theorem twoHE {S : World → Prop} {i j : Nat} {oi oj : Oper} {fuel : Nat} {listed : Array Bool} {a : Act} {w : World} (hi : ops[i]? = some oi) (hj : ops[j]? = some oj) (hr : Region.ready md ops listed = [i, j]) (hg : oi.guard = none) (hg2 : oj.guard = none)
    (h : oi.wp P a w (fun a' w' => S w' ∧ wpAnyH P md ops Q S fuel (listed.setIfInBounds i true) a' w') Q)
    (h2 : oj.wp P a w (fun a' w' => S w' ∧ wpAnyH P md ops Q S fuel (listed.setIfInBounds j true) a' w') Q) : wpAnyH P md ops Q S (fuel + 1) listed a w := by
  refine wpAnyH_all hr (by simp) fun k hk => ?_
  have : k = i ∨ k = j := by simpa using hk
  rcases this with rfl | rfl
  · unfold wpOp
    simp only [hi]
    rw [if_pos (by simp [Region.wanted, hg])]
    exact .inl h
  · unfold wpOp
    simp only [hj]
    rw [if_pos (by simp [Region.wanted, hg2])]
    exact .inl h2
/-- A call, its outcome taken up. -/
theorem call_then {oi : Oper} {a : Act} {w : World} {K : Act → World → Prop} {d : Tmp} {f : FuncId} {xs : Array Operand} {ats : Array TypeId} (hd : oi.dst = some d) (hop : oi.op = Op.call { callee := Callee.value (.func f), args := xs, argTypes := ats })
    (he : ∀ args w, (callFunc f args).run P w = .ok (.enter f args) w) {vs : Array Value} (hxs : xs.map a.eval = vs) {R : World → Prop} {v : Value} (hc : Calls P f vs w fun e w' => e = .returned v ∧ R w') (hK : ∀ w', R w' → K (a.put (some d) v) w') : oi.wp P a w K Q := by
  unfold Oper.wp
  have hr : (execOp a.eval oi).run P w = .ok (.enter f vs) w := by
    have h2 : xs.map a.eval = vs := hxs
    simp [execOp, hop, resolve, invoke, Act.eval, Deferred.ofValue]
    have h3 := he (xs.map a.eval) w
    rw [h2] at h3
    rw [← h2] at h3 ⊢
    exact h3
  rw [hr, Oper.upon_enter]
  exact hc.mono (by rintro e w' ⟨rfl, h⟩; rw [hd]; exact hK _ h)
end
end Go.Proofs.YtdeghndcglgfkaaDoor
