/-
  P16.1 and P16.9 as functions: which error a task has, and its limit.
-/
import Derived.Test.YtinijeejfnehmaaRoundRan
namespace Go.Proofs.Ytinijeejfnehmaa
set_option maxRecDepth 100000

def taskE (n : Int) (es : List Ed) (k s wk ev bu : Int) : Int :=
  if jobE n es k s = 0 then (if (1 ≤ wk ∧ wk ≤ 8) ∧ (1 ≤ ev ∧ ev ≤ 100000) ∧ 1 ≤ bu ∧ bu ≤ 1000 then 0 else 2) else jobE n es k s
theorem taskE_bad {n k s wk ev bu : Int} {es : List Ed} (h : ¬ jobE n es k s = 0) : taskE n es k s wk ev bu = jobE n es k s := by unfold taskE; rw [if_neg h]
theorem taskE_no {n k s wk ev bu : Int} {es : List Ed} (h : jobE n es k s = 0) (h2 : ¬ ((1 ≤ wk ∧ wk ≤ 8) ∧ (1 ≤ ev ∧ ev ≤ 100000) ∧ 1 ≤ bu ∧ bu ≤ 1000)) : taskE n es k s wk ev bu = 2 := by unfold taskE; rw [if_pos h, if_neg h2]
theorem taskE_ok {n k s wk ev bu : Int} {es : List Ed} (h : jobE n es k s = 0) (h2 : (1 ≤ wk ∧ wk ≤ 8) ∧ (1 ≤ ev ∧ ev ≤ 100000) ∧ 1 ≤ bu ∧ bu ≤ 1000) : taskE n es k s wk ev bu = 0 := by unfold taskE; rw [if_pos h, if_pos h2]
theorem taskE_zero {n k s wk ev bu : Int} {es : List Ed} (h : taskE n es k s wk ev bu = 0) : jobE n es k s = 0 ∧ (1 ≤ wk ∧ wk ≤ 8) ∧ (1 ≤ ev ∧ ev ≤ 100000) ∧ 1 ≤ bu ∧ bu ≤ 1000 := by
  by_cases h1 : jobE n es k s = 0
  · by_cases h2 : (1 ≤ wk ∧ wk ≤ 8) ∧ (1 ≤ ev ∧ ev ≤ 100000) ∧ 1 ≤ bu ∧ bu ≤ 1000
    · exact ⟨h1, h2⟩
    · rw [taskE_no h1 h2] at h; cases h
  · rw [taskE_bad h1] at h; exact absurd h h1
/-- So many rounds to the end. -/
def cntR (n : Nat) (es : List Ed) (k s : Int) : Nat → Int × StS → Nat
  | 0, _ => 0
  | f + 1, r => if r.1 = 0 ∧ r.2.done = false then cntR n es k s f (nextE n es k s r.2) + 1 else 0
theorem cntR_le (n : Nat) (es : List Ed) (k s : Int) : ∀ (f : Nat) (r : Int × StS), cntR n es k s f r ≤ f
  | 0, _ => Nat.le_refl _
  | f + 1, r => by
    show (if _ then _ else _) ≤ _
    split
    · exact Nat.succ_le_succ (cntR_le n es k s f (nextE n es k s r.2))
    · exact Nat.zero_le _
theorem cntR_go {n : Nat} {es : List Ed} {k s : Int} {f : Nat} {r : Int × StS} (h : r.1 = 0 ∧ r.2.done = false) : cntR n es k s (f + 1) r = cntR n es k s f (nextE n es k s r.2) + 1 := by
  show (if _ then _ else _) = _
  rw [if_pos h]
theorem cntR_end {n : Nat} {es : List Ed} {k s : Int} {f : Nat} {r : Int × StS} (h : ¬ (r.1 = 0 ∧ r.2.done = false)) : cntR n es k s f r = 0 := by
  cases f with
  | zero => rfl
  | succ f => show (if _ then _ else _) = _; rw [if_neg h]
def limC (n : Int) (es : List Ed) (k s : Int) : Nat := cntR n.toNat es k s 100001 (0, beginS n.toNat)
theorem limC_le (n : Int) (es : List Ed) (k s : Int) : limC n es k s ≤ 100001 := cntR_le _ _ _ _ _ _
def limE (n : Int) (es : List Ed) (k s wk ev bu : Int) : Int × Int := if taskE n es k s wk ev bu = 0 then (((limC n es k s : Int) + 2) * (n + es.length + 12), 0) else (0, taskE n es k s wk ev bu)
theorem limE_no {n k s wk ev bu : Int} {es : List Ed} (h : ¬ taskE n es k s wk ev bu = 0) : limE n es k s wk ev bu = (0, taskE n es k s wk ev bu) := by unfold limE; rw [if_neg h]
theorem limE_yes {n k s wk ev bu : Int} {es : List Ed} (h : taskE n es k s wk ev bu = 0) : limE n es k s wk ev bu = (((limC n es k s : Int) + 2) * (n + es.length + 12), 0) := by unfold limE; rw [if_pos h]
end Go.Proofs.Ytinijeejfnehmaa
