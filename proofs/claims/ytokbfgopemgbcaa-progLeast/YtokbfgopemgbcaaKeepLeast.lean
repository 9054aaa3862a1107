/-
  The least of the mail is enough: what Wake makes of mail hangs on its least piece alone.
-/
import Derived.Test.YtokbfgopemgbcaaKeepFalls
namespace Go.Proofs.Ytokbfgopemgbcaa
set_option maxRecDepth 100000
open Go.ChangeShapes Go.WideShapes Go.ChangeAt Go.RowKit

theorem least_in : ∀ (m : List Int) (n : Int), (∀ y ∈ m, 0 ≤ y) → 0 ≤ n → (m.foldl leastS n = n ∨ m.foldl leastS n ∈ m) ∧ ∀ z ∈ m, m.foldl leastS n ≤ z
  | [], n, _, _ => ⟨.inl rfl, fun z hz => by simp at hz⟩
  | y :: m, n, hm, hn => by
    have hy := hm y (by simp)
    have hm' : ∀ z ∈ m, 0 ≤ z := fun z hz => hm z (by simp [hz])
    rw [List.foldl_cons]
    by_cases e : n < 0 ∨ y < n
    · rw [show leastS n y = y from if_pos e]
      obtain ⟨h1, h2⟩ := least_in m y hm' hy
      refine ⟨.inr ?_, fun z hz => ?_⟩
      · rcases h1 with h1 | h1
        · rw [h1]; simp
        · simp [h1]
      · rcases List.mem_cons.1 hz with rfl | hz
        · exact least_le m z hm' hy
        · exact h2 z hz
    · rw [show leastS n y = n from if_neg e]
      obtain ⟨h1, h2⟩ := least_in m n hm' hn
      refine ⟨?_, fun z hz => ?_⟩
      · rcases h1 with h1 | h1
        · exact .inl h1
        · exact .inr (by simp [h1])
      · rcases List.mem_cons.1 hz with rfl | hz
        · have := least_le m n hm' hn
          omega
        · exact h2 z hz
theorem least_is {m : List Int} {s : Int} (hm : ∀ y ∈ m, 0 ≤ y) (h1 : s ∈ m) (h2 : ∀ z ∈ m, s ≤ z) : leastF m = s := by
  cases m with
  | nil => simp at h1
  | cons y m =>
    have hy := hm y (by simp)
    have hm' : ∀ z ∈ m, 0 ≤ z := fun z hz => hm z (by simp [hz])
    have hl : leastF (y :: m) = m.foldl leastS y := by
      unfold leastF
      rw [List.foldl_cons, show leastS (-1) y = y from if_pos (.inl (by omega))]
    rw [hl]
    obtain ⟨g1, g2⟩ := least_in m y hm' hy
    have g3 := least_le m y hm' hy
    have a1 : m.foldl leastS y ≤ s := by
      rcases List.mem_cons.1 h1 with rfl | h
      · exact g3
      · exact g2 s h
    have a2 : s ≤ m.foldl leastS y := by
      rcases g1 with g1 | g1
      · rw [g1]; exact h2 y (by simp)
      · exact h2 _ (by simp [g1])
    omega
theorem low_is {a s : Int} {m : List Int} (ha : -1 ≤ a) (hm : ∀ y ∈ m, 0 ≤ y) (h1 : s ∈ m) (h2 : ∀ z ∈ m, s ≤ z) :
    ((a < 0 ∨ s < a) → lowF a m = (s, true)) ∧ (¬ (a < 0 ∨ s < a) → lowF a m = (a, false)) := by
  have hl := least_is hm h1 h2
  obtain ⟨g1, g2⟩ := low_eq a m ha hm
  rw [hl] at g1 g2
  exact ⟨fun h => g1 ⟨hm s h1, h⟩, fun h => g2 (fun h' => h h'.2)⟩
/-- A slice of one new number owns its block. -/
theorem own_newI (w : World) (base : Nat) (hb : base ≤ w.heap.size) (x : Int) : (w.alloc (.cells #[.int .i64 x] 3)).ownsRow base 3 1 (.slice (some ⟨w.heap.size, 0, none⟩) 1 1) ([x] : List Int).length (([x] : List Int).flatMap encI) :=
  ⟨by simp [encI], .inr ⟨w.heap.size, 1, #[.int .i64 x], rfl, hb, heap_alloc_new w _, by simp, by simp [maxLen], by simp, by simp [encI]⟩⟩
end Go.Proofs.Ytokbfgopemgbcaa
