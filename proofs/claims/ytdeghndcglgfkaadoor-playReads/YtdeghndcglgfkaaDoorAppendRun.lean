/-
  'append' as a step of a region that draws its order: where it is known that the append yields, its value and its world stand for themselves (appV, appW).
-/
import Derived.Test.YtdeghndcglgfkaaDoorRowBase
import Derived.BigRegion
namespace Go.Proofs.YtdeghndcglgfkaaDoor
set_option maxRecDepth 100000
open Go.ChangeShapes Go.WideShapes Go.ChangeAt Go.RowKit

/-- What an append yields, and the world behind it. -/
def appR (P : Program) (ats : Array TypeId) (ty : TypeId) (args : Array Value) (w : World) : Value × World :=
  match Sem.run P (Builtin.append_ ats ty args) w with
  | .ok v w' => (v, w')
  | .halt _ _ => (undef, w)
def appV (P : Program) (ats : Array TypeId) (ty : TypeId) (args : Array Value) (w : World) : Value := (appR P ats ty args w).1
def appW (P : Program) (ats : Array TypeId) (ty : TypeId) (args : Array Value) (w : World) : World := (appR P ats ty args w).2
/-- The append yields. -/
def AppOk (P : Program) (ats : Array TypeId) (ty : TypeId) (args : Array Value) (w : World) : Prop :=
  Sem.run P (Builtin.append_ ats ty args) w = .ok (appV P ats ty args w) (appW P ats ty args w)
theorem appOk_of {P : Program} {ats : Array TypeId} {ty : TypeId} {args : Array Value} {w w' : World} {v : Value} (h : Sem.run P (Builtin.append_ ats ty args) w = .ok v w') : AppOk P ats ty args w ∧ appV P ats ty args w = v ∧ appW P ats ty args w = w' := by
  have e : appR P ats ty args w = (v, w') := by unfold appR; rw [h]
  refine ⟨?_, by rw [appV, e], by rw [appW, e]⟩
  rw [AppOk, h, appV, appW, e]

theorem exec_append {P : Program} (ρ : Operand → Value) (dst : Option Tmp) (xs : Array Operand) (ats : Array TypeId) (ty : TypeId) (pos : String) (after : Array Edge) (guard : Option (Nat × Bool)) (w : World) (h : AppOk P ats ty (xs.map ρ) w) :
    Sem.run P (execOp ρ { dst, op := .call { callee := .builtin .append, args := xs, argTypes := ats }, type := ty, pos, after, guard }) w = .ok (.value (appV P ats ty (xs.map ρ) w)) (appW P ats ty (xs.map ρ) w) := by
  rw [BigFrame.execOp_builtin, BigFrame.builtin_append]
  unfold AppOk at h
  simp only [Sem.run_bind, Sem.run_pure, h, Result.andThen_ok]
end Go.Proofs.YtdeghndcglgfkaaDoor
