/-
  Mail of which the least counts, heard piece by piece.
-/
import Derived.Test.YtinijeejfnehmaaRowBase
namespace Go.Proofs.Ytinijeejfnehmaa
set_option maxRecDepth 100000

/-- One piece of mail, heard by a value of which the least counts. -/
def lowS (x : Int × Bool) (m : Int) : Int × Bool := if x.1 = -1 ∨ m < x.1 then (m, true) else x
def lowF (a : Int) (m : List Int) : Int × Bool := m.foldl lowS (a, false)
theorem low_fold : ∀ (m : List Int) (a : Int) (b : Bool), -1 ≤ a → (∀ y ∈ m, 0 ≤ y) →
    (m.foldl lowS (a, b) = (a, b) ∨ ((m.foldl lowS (a, b)).2 = true ∧ (m.foldl lowS (a, b)).1 ∈ m ∧ (a = -1 ∨ (m.foldl lowS (a, b)).1 < a))) ∧
    (∀ y ∈ m, 0 ≤ (m.foldl lowS (a, b)).1 ∧ (m.foldl lowS (a, b)).1 ≤ y) ∧ (0 ≤ a → 0 ≤ (m.foldl lowS (a, b)).1 ∧ (m.foldl lowS (a, b)).1 ≤ a)
  | [], a, b, _, _ => ⟨.inl rfl, fun y hy => by simp at hy, fun h => ⟨h, Int.le_refl _⟩⟩
  | y :: m, a, b, hb, hm => by
    have hy := hm y (by simp)
    have hm' : ∀ z ∈ m, 0 ≤ z := fun z hz => hm z (by simp [hz])
    rw [List.foldl_cons]
    by_cases e : a = -1 ∨ y < a
    · rw [show lowS (a, b) y = (y, true) from if_pos e]
      obtain ⟨h1, h2, h3⟩ := low_fold m y true (by omega) hm'
      obtain ⟨h4, h5⟩ := h3 hy
      refine ⟨.inr ?_, fun z hz => ?_, fun ha => ⟨h4, ?_⟩⟩
      · rcases h1 with h1 | ⟨g1, g2, g3⟩
        · rw [h1]; exact ⟨rfl, by simp, e⟩
        · exact ⟨g1, by simp [g2], by rcases e with e | e; exact .inl e; exact .inr (by omega)⟩
      · rcases List.mem_cons.1 hz with rfl | hz
        · exact ⟨h4, h5⟩
        · exact h2 z hz
      · rcases e with e | e <;> omega
    · rw [show lowS (a, b) y = (a, b) from if_neg e]
      obtain ⟨h1, h2, h3⟩ := low_fold m a b hb hm'
      refine ⟨?_, fun z hz => ?_, h3⟩
      · rcases h1 with h1 | ⟨g1, g2, g3⟩
        · exact .inl h1
        · exact .inr ⟨g1, by simp [g2], g3⟩
      · rcases List.mem_cons.1 hz with rfl | hz
        · by_cases ha : 0 ≤ a
          · obtain ⟨h4, h5⟩ := h3 ha
            exact ⟨h4, by omega⟩
          · exact absurd (.inr (by omega)) e
        · exact h2 z hz
/-- What hearing mail comes to. -/
theorem lowF_spec {a : Int} {m : List Int} (ha : -1 ≤ a) (hm : ∀ y ∈ m, 0 ≤ y) :
    (lowF a m = (a, false) ∨ ((lowF a m).2 = true ∧ (lowF a m).1 ∈ m ∧ (a = -1 ∨ (lowF a m).1 < a))) ∧ (∀ y ∈ m, 0 ≤ (lowF a m).1 ∧ (lowF a m).1 ≤ y) ∧ (0 ≤ a → 0 ≤ (lowF a m).1 ∧ (lowF a m).1 ≤ a) := low_fold m a false ha hm
/-- It hangs on what is in the mail alone, not on how often or in which order. -/
theorem lowF_same {a : Int} {m m' : List Int} (ha : -1 ≤ a) (hm : ∀ y ∈ m, 0 ≤ y) (h : ∀ y, y ∈ m ↔ y ∈ m') : lowF a m = lowF a m' := by
  have hm' : ∀ y ∈ m', 0 ≤ y := fun y hy => hm y ((h y).2 hy)
  obtain ⟨a1, a2, a3⟩ := lowF_spec (a := a) ha hm
  obtain ⟨b1, b2, b3⟩ := lowF_spec (a := a) ha hm'
  rcases a1 with a1 | ⟨a1, a4, a5⟩
  · rcases b1 with b1 | ⟨b1, b4, b5⟩
    · rw [a1, b1]
    · have := a2 _ ((h _).2 b4)
      rw [a1] at this
      simp only at this
      omega
  · rcases b1 with b1 | ⟨b1, b4, b5⟩
    · have := b2 _ ((h _).1 a4)
      rw [b1] at this
      simp only at this
      omega
    · have h1 := a2 _ ((h _).2 b4)
      have h2 := b2 _ ((h _).1 a4)
      exact Prod.ext (by omega) (by rw [a1, b1])
end Go.Proofs.Ytinijeejfnehmaa
