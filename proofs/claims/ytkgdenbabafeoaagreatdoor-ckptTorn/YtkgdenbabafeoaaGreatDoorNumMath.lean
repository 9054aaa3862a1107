/-
  A number of at most m at the head of some bytes, in plain mathematics.
-/
import Derived.Test.YtkgdenbabafeoaaGreatDoorGapsPlain
namespace Go.Proofs.YtkgdenbabafeoaaGreatDoor
set_option maxRecDepth 100000

/-- A number of at most m, and the bytes behind it. -/
def numF (m : Int) (l : List Int) : Option (Int × List Int) :=
  if (get l).2.2 = 0 ∧ (get l).1 ≤ m then some ((get l).1, l.drop (get l).2.1) else none
theorem numF_yes {m x : Int} {u : Nat} {l : List Int} (h : get l = (x, u, 0)) (hx : x ≤ m) : numF m l = some (x, l.drop u) := by
  unfold numF; rw [h]; exact if_pos ⟨rfl, hx⟩
theorem numF_big {m x : Int} {u : Nat} {l : List Int} (h : get l = (x, u, 0)) (hx : m < x) : numF m l = none := by
  unfold numF; rw [h]; exact if_neg fun h => by have := h.2; simp only at this; omega
theorem numF_err {m e : Int} {l : List Int} (h : get l = (0, 0, e)) (he : e ≠ 0) : numF m l = none := by
  unfold numF; rw [h]; exact if_neg fun h => he h.1
/-- What a number that is had says. -/
theorem numF_inv {m x : Int} {l r : List Int} (hb : ∀ y ∈ l, 0 ≤ y ∧ y ≤ 255) (h : numF m l = some (x, r)) : 0 ≤ x ∧ x ≤ m ∧ r.length < l.length ∧ ∀ y ∈ r, 0 ≤ y ∧ y ≤ 255 := by
  rcases get_inv hb with ⟨e, he, hne⟩ | ⟨n, t, he, hl, h0, h1⟩
  · rw [numF_err he hne] at h; cases h
  · by_cases hm : n ≤ m
    · rw [numF_yes he hm] at h
      injection h with h
      injection h with h2 h3
      subst h2 h3
      have hp := put_len n
      refine ⟨h0, hm, ?_, fun y hy => hb y (List.mem_of_mem_drop hy)⟩
      rw [List.length_drop]
      have : l.length = (put n).length + t.length := by rw [hl, List.length_append]
      omega
    · rw [numF_big he (by omega)] at h; cases h
theorem numF_put {m n : Int} (t : List Int) (h0 : 0 ≤ n) (h1 : n ≤ m) (h2 : m ≤ 18446744073709551615) : numF m (put n ++ t) = some (n, t) := by
  rw [numF_yes (get_put t h0 (by omega)) h1, List.drop_left]
/-- A lower bound refuses more. -/
theorem numF_less {m m' : Int} (h : m ≤ m') (l : List Int) : numF m l = (numF m' l).filter fun r => decide (r.1 ≤ m) := by
  unfold numF
  by_cases h1 : (get l).2.2 = 0
  · by_cases h2 : (get l).1 ≤ m
    · rw [if_pos ⟨h1, h2⟩, if_pos ⟨h1, by omega⟩, Option.filter_some_pos (by exact decide_eq_true h2)]
    · rw [if_neg fun h => h2 h.2]
      by_cases h3 : (get l).1 ≤ m'
      · rw [if_pos ⟨h1, h3⟩, Option.filter_some_neg (by simpa using h2)]
      · rw [if_neg fun h => h3 h.2]; rfl
  · rw [if_neg fun h => h1 h.1, if_neg fun h => h1 h.1]; rfl
end Go.Proofs.YtkgdenbabafeoaaGreatDoor
