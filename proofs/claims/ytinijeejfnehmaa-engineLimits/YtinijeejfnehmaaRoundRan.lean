/-
  P13.6 as a function: a job run to its end; so many rounds at most.
-/
import Derived.Test.YtinijeejfnehmaaRoundMay
import Derived.Test.YtinijeejfnehmaaRoundTell
namespace Go.Proofs.Ytinijeejfnehmaa
set_option maxRecDepth 100000

/-- P13.6. -/
def ranE (n : Int) (es : List Ed) (k s : Int) : Int × StS := if jobE n es k s = 0 then runE n.toNat es k s 100001 (0, beginS n.toNat) else (jobE n es k s, st0)
section
variable {n : Nat} {es : List Ed} {k s : Int} {t : StS}
theorem begin_may (hk : 1 ≤ k ∧ k ≤ 3) (n : Nat) : mayR n k (beginS n) = true := by
  rcases (show k = 1 ∨ k = 2 ∨ k = 3 by omega) with rfl | rfl | rfl
  · exact mayR_iff.2 ⟨_, rfl, MayI.begin n (false, false)⟩
  · exact mayR_iff.2 ⟨_, rfl, MayI.begin n (false, true)⟩
  · exact mayR_iff.2 ⟨_, rfl, MayI.begin n (true, false)⟩
theorem next_may (hn : n ≤ 200) (hg : InG n es) (hl : es.length ≤ 600) (hm : mayR n k t = true) (hd : t.done = false) (h0 : (nextE n es k s t).1 = 0) : mayR n k (nextE n es k s t).2 = true ∧ (nextE n es k s t).2.step = t.step + 1 := by
  obtain ⟨j, hj, hI⟩ := mayR_iff.1 hm
  unfold nextE at h0 ⊢
  rw [if_pos hm, if_neg (by simp [hd])] at h0 ⊢
  by_cases hs : 100000 ≤ t.step
  · rw [if_pos hs] at h0; cases h0
  · rw [if_neg hs, hj] at h0 ⊢
    simp only at h0 ⊢
    by_cases ho : overR j (rndV j s t) es = true
    · rw [if_pos ho] at h0; cases h0
    · rw [if_neg ho]
      refine ⟨?_, (behR_step j t.step t.phase _ _).1⟩
      have h2 := MayI.next hI hj hn hg hl (by omega) (by simpa using ho)
      exact mayR_iff.2 h2
theorem next_step (hm : mayR n k t = true) (hd : t.done = false) (h0 : (nextE n es k s t).1 = 0) : t.step < 100000 := by
  unfold nextE at h0
  rw [if_pos hm, if_neg (by simp [hd])] at h0
  by_cases hs : 100000 ≤ t.step
  · rw [if_pos hs] at h0; cases h0
  · omega
theorem may_step (hm : mayR n k t = true) : t.step ≤ 100000 := by
  obtain ⟨j, hj, hI⟩ := mayR_iff.1 hm
  exact hI.stp.2
theorem run_go (f : Nat) {r : Int × StS} (h : r.1 = 0) (hd : r.2.done = false) : runE n es k s (f + 1) r = runE n es k s f (nextE n es k s r.2) := by
  show (if r.1 = 0 ∧ r.2.done = false then _ else _) = _
  rw [if_pos ⟨h, hd⟩]
theorem run_end (f : Nat) {r : Int × StS} (h : ¬ (r.1 = 0 ∧ r.2.done = false)) : runE n es k s f r = r := by
  cases f with
  | zero => rfl
  | succ f => show (if r.1 = 0 ∧ r.2.done = false then _ else _) = _; rw [if_neg h]
/-- What holds all along: so many rounds are left. -/
def RanI (n : Nat) (es : List Ed) (k s : Int) (R : Int × StS) (f : Nat) (r : Int × StS) : Prop := runE n es k s f r = R ∧ (r.1 = 0 → mayR n k r.2 = true ∧ 100001 ≤ (f : Int) + r.2.step)
theorem RanI.pos {R r : Int × StS} {f : Nat} (h : RanI n es k s R f r) (h0 : r.1 = 0) : ∃ f', f = f' + 1 := by
  obtain ⟨h1, h2⟩ := h.2 h0
  have := may_step h1
  exact ⟨f - 1, by omega⟩
theorem RanI.go (hn : n ≤ 200) (hg : InG n es) (hl : es.length ≤ 600) {R r : Int × StS} {f : Nat} (h : RanI n es k s R (f + 1) r) (h0 : r.1 = 0) (hd : r.2.done = false) : RanI n es k s R f (nextE n es k s r.2) := by
  obtain ⟨h1, h2⟩ := h.2 h0
  refine ⟨by rw [← run_go f h0 hd]; exact h.1, fun h3 => ?_⟩
  obtain ⟨h4, h5⟩ := next_may hn hg hl h1 hd h3
  exact ⟨h4, by rw [h5]; omega⟩
theorem RanI.out {R r : Int × StS} {f : Nat} (h : RanI n es k s R f r) (h0 : ¬ (r.1 = 0 ∧ r.2.done = false)) : R = r := by
  rw [← h.1]; exact run_end f h0
end
theorem RanI.start {n k s : Int} {es : List Ed} {m : Nat} (hm : n = m) (h : jobE n es k s = 0) : RanI m es k s (ranE n es k s) 100001 (0, beginS m) := by
  subst hm
  refine ⟨?_, fun _ => ⟨begin_may (jobE_zero h).2.1 m, by show (100001 : Int) ≤ ((100001 : Nat) : Int) + 0; omega⟩⟩
  unfold ranE
  rw [if_pos h, Int.toNat_natCast]
end Go.Proofs.Ytinijeejfnehmaa
