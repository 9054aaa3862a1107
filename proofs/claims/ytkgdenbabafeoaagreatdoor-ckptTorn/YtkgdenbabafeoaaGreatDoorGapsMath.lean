/-
  P1.5 as functions: lists that rise, their gaps, and which error is named.
-/
import Derived.Test.YtkgdenbabafeoaaGreatDoorPlain
import Derived.Test.YtkgdenbabafeoaaGreatDoorBase
namespace Go.Proofs.YtkgdenbabafeoaaGreatDoor
set_option maxRecDepth 100000
open Go.ChangeShapes Go.WideShapes Go.ChangeAt Go.RowKit

/-- All numbers lie from 0 to MaxNumber. -/
def AllIn (l : List Int) : Prop := ∀ i, i < l.length → 0 ≤ l.getD i 0 ∧ l.getD i 0 ≤ 1152921504606846976
/-- No number is below the one ahead of it. -/
def Rises (l : List Int) : Prop := ∀ i, i + 1 < l.length → l.getD i 0 ≤ l.getD (i + 1) 0

/-- Which error P1.5 names for a list (0: none). -/
def Named (l : List Int) (c : Int) : Prop :=
  (c = 1 ∧ 2000 < l.length) ∨ (c = 2 ∧ l.length ≤ 2000 ∧ ¬ AllIn l) ∨ (c = 3 ∧ l.length ≤ 2000 ∧ AllIn l ∧ ¬ Rises l) ∨ (c = 0 ∧ l.length ≤ 2000 ∧ AllIn l ∧ Rises l)

def prev (l : List Int) (k : Nat) : Int := if k = 0 then 0 else l.getD (k - 1) 0
/-- The bytes of the gaps of the first k numbers. -/
def gapsTo (l : List Int) : Nat → List Int
  | 0 => []
  | k + 1 => gapsTo l k ++ put (l.getD k 0 - prev l k)
/-- P1.5 -/
def gapsF (l : List Int) (c : Int) : List Int := if c = 0 then put l.length ++ gapsTo l l.length else []

theorem gapsTo_len (l : List Int) : ∀ k, (gapsTo l k).length ≤ 10 * k
  | 0 => by simp [gapsTo]
  | k + 1 => by
    have := gapsTo_len l k
    have := put_len (l.getD k 0 - prev l k)
    simp only [gapsTo, List.length_append]; omega
theorem prev_in {l : List Int} (ha : AllIn l) (hr : Rises l) {k : Nat} (hk : k < l.length) : 0 ≤ prev l k ∧ prev l k ≤ l.getD k 0 ∧ l.getD k 0 ≤ 1152921504606846976 := by
  have h1 := ha k hk
  unfold prev
  by_cases h : k = 0
  · rw [if_pos h]; omega
  · rw [if_neg h]
    obtain ⟨j, rfl⟩ : ∃ j, k = j + 1 := ⟨k - 1, by omega⟩
    have h2 := ha j (by omega)
    have h3 := hr j hk
    rw [show j + 1 - 1 = j from by omega]
    omega
theorem gapsTo_bytes {l : List Int} (ha : AllIn l) (hr : Rises l) : ∀ k, k ≤ l.length → ∀ x ∈ gapsTo l k, 0 ≤ x ∧ x ≤ 255
  | 0, _, x, hx => by simp [gapsTo] at hx
  | k + 1, hk, x, hx => by
    have h := prev_in ha hr (show k < l.length by omega)
    simp only [gapsTo, List.mem_append] at hx
    rcases hx with hx | hx
    · exact gapsTo_bytes ha hr k (by omega) x hx
    · exact put_bytes (by omega) (by omega) x hx
theorem gapsF_bytes {l : List Int} {c : Int} (h : Named l c) : ∀ x ∈ gapsF l c, 0 ≤ x ∧ x ≤ 255 := by
  intro x hx
  unfold gapsF at hx
  by_cases hc : c = 0
  · rw [if_pos hc] at hx
    rcases h with h | h | h | ⟨_, hl, ha, hr⟩
    · omega
    · omega
    · omega
    · rcases List.mem_append.1 hx with hx | hx
      · exact put_bytes (by omega) (by omega) x hx
      · exact gapsTo_bytes ha hr _ (Nat.le_refl _) x hx
  · rw [if_neg hc] at hx; simp at hx
theorem Named.one {l : List Int} {c d : Int} (h : Named l c) (k : Named l d) : c = d := by
  rcases h with h | h | h | h <;> rcases k with k | k | k | k <;> first | omega | (exact absurd k.2.2.1 h.2.2) | (exact absurd h.2.2.1 k.2.2) | (exact absurd k.2.2.2 h.2.2.2) | (exact absurd h.2.2.2 k.2.2.2)

theorem own_mono {w : World} {b b' : Nat} {e : TypeId} {size n : Nat} {v : Value} {xs : List Value} (h : w.ownsRow b e size v n xs) (hb : b' ≤ b) : w.ownsRow b' e size v n xs := by
  refine ⟨h.1, ?_⟩
  rcases h.2 with hn | ⟨g, cap, cur, hv, hg, rest⟩
  · exact .inl hn
  · exact .inr ⟨g, cap, cur, hv, by omega, rest⟩

end Go.Proofs.YtkgdenbabafeoaaGreatDoor
