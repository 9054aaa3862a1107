/-
  What the least of the mail does to a value: for pacelinekeep's laws on Wake.
-/
import Derived.Test.YtokbfgopemgbcaaProgFace
import Derived.Test.YtokbfgopemgbcaaKeepVals
namespace Go.Proofs.Ytokbfgopemgbcaa
set_option maxRecDepth 100000
open Go.ChangeShapes Go.WideShapes Go.ChangeAt Go.RowKit

/-- The least of the mail, heard by a small value of Dist or Weak. -/
theorem wake_low {k v a : Int} {m : List Int} (hk : k = 1 ∨ k = 2) (hv : 0 ≤ v ∧ v < 20) (ha : -1 ≤ a ∧ a < 20) (hm : ∀ y ∈ m, 0 ≤ y ∧ y < 20) :
    wakeF k v 0 (a, -1) 0 false m = ⟨((lowF a m).1, -1), (lowF a m).2, 0⟩ := by
  have hmb : ∀ j : Jb, mailB j m = true := fun j => mailB_iff.2 fun y hy => ⟨(hm y hy).1, by
    have h1 := (hm y hy).2
    have h2 : ∀ j : Jb, 199 ≤ Jb.top j := jb_cases (by decide) (by decide) (by decide) (by decide)
    have := h2 j
    omega⟩
  have hvb : ∀ j : Jb, valB j (a, -1) = true := fun j => by
    have h2 : ∀ j : Jb, 199 ≤ Jb.top j := jb_cases (by decide) (by decide) (by decide) (by decide)
    have := h2 j
    unfold valB
    rw [in_yes (v := a) (a := -1) (b := Jb.top j) ⟨ha.1, by omega⟩]
    rfl
  have hvv : inB v 0 199 = true := in_yes ⟨hv.1, by omega⟩
  rcases hk with rfl | rfl
  · show wakeF (Jb.k (false, false)) v 0 (a, -1) (Jb.p (false, false)) false m = _
    rw [wakeF_of]
    unfold wakeJ
    rw [hvv, hvb, hmb]
    rfl
  · show wakeF (Jb.k (false, true)) v 0 (a, -1) (Jb.p (false, true)) false m = _
    rw [wakeF_of]
    unfold wakeJ
    rw [hvv, hvb, hmb]
    rfl
theorem least_nil {m : List Int} (hm : ∀ y ∈ m, 0 ≤ y) (h : leastF m < 0) : m = [] := by
  cases m with
  | nil => rfl
  | cons y m =>
    have hl : leastF (y :: m) = m.foldl leastS y := by
      unfold leastF
      rw [List.foldl_cons, show leastS (-1) y = y from if_pos (.inl (by omega))]
    rw [hl] at h
    have := least_nn m y (fun z hz => hm z (by simp [hz])) (hm y (by simp))
    omega
/-- Values fall, or stay. -/
theorem low_falls {a : Int} {m : List Int} (ha : -1 ≤ a) (hm : ∀ y ∈ m, 0 ≤ y) :
    ((lowF a m).2 = true ∧ 0 ≤ (lowF a m).1 ∧ (a = -1 ∨ (lowF a m).1 < a)) ∨ ((lowF a m).2 = false ∧ (lowF a m).1 = a ∧ (0 ≤ a ∨ m = [])) := by
  obtain ⟨h1, h2⟩ := low_eq a m ha hm
  by_cases h : 0 ≤ leastF m ∧ (a < 0 ∨ leastF m < a)
  · rw [h1 h]
    exact .inl ⟨rfl, h.1, by rcases h.2 with h | h; exact .inl (by omega); exact .inr h⟩
  · rw [h2 h]
    refine .inr ⟨rfl, rfl, ?_⟩
    by_cases h0 : 0 ≤ a
    · exact .inl h0
    · refine .inr (least_nil hm ?_)
      rcases Int.lt_or_le (leastF m) 0 with h' | h'
      · exact h'
      · exact absurd ⟨h', .inl (by omega)⟩ h
theorem valL_nil {l : List Int} (h : valL l = []) : l = [] := by
  unfold valL at h
  cases l with
  | nil => rfl
  | cons x l => simp at h
end Go.Proofs.Ytokbfgopemgbcaa
