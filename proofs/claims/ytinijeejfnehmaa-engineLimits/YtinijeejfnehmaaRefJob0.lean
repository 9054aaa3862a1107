/-
  Which error P13.1 names, as a function: its cases.
-/
import Derived.Test.YtinijeejfnehmaaRoundMath
namespace Go.Proofs.Ytinijeejfnehmaa
set_option maxRecDepth 100000

theorem jobE_bad {n k s : Int} {es : List Ed} (h : faultE n es ≠ 0) : jobE n es k s = faultE n es := by unfold jobE; rw [if_pos h]
theorem jobE_kind {n k s : Int} {es : List Ed} (h : faultE n es = 0) (hk : ¬ (1 ≤ k ∧ k ≤ 3)) : jobE n es k s = 3 := by unfold jobE; rw [if_neg (by omega), if_pos hk]
theorem jobE_src {n k s : Int} {es : List Ed} (h : faultE n es = 0) (hk : k = 1) (hs : ¬ (0 ≤ s ∧ s < n)) : jobE n es k s = 2 := by unfold jobE; rw [if_neg (by omega), if_neg (by omega), if_pos ⟨hk, hs⟩]
theorem jobE_ok {n k s : Int} {es : List Ed} (h : faultE n es = 0) (hk : 1 ≤ k ∧ k ≤ 3) (hs : k = 1 → 0 ≤ s ∧ s < n) : jobE n es k s = 0 := by unfold jobE; rw [if_neg (by omega), if_neg (by omega), if_neg (fun g => g.2 (hs g.1))]
theorem jobE_zero {n k s : Int} {es : List Ed} (h : jobE n es k s = 0) : faultE n es = 0 ∧ (1 ≤ k ∧ k ≤ 3) ∧ (k = 1 → 0 ≤ s ∧ s < n) := by
  by_cases h1 : faultE n es = 0
  · by_cases h2 : 1 ≤ k ∧ k ≤ 3
    · refine ⟨h1, h2, fun hk => ?_⟩
      apply Classical.byContradiction
      intro hs
      rw [jobE_src h1 hk hs] at h
      cases h
    · rw [jobE_kind h1 h2] at h; cases h
  · rw [jobE_bad h1] at h; exact absurd h h1
end Go.Proofs.Ytinijeejfnehmaa
