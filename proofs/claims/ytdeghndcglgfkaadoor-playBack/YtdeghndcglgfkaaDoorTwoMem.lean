/-
  Pairs of numbers, and slices of them: what they read as.
-/
import Derived.Test.YtdeghndcglgfkaaDoorRowCore
namespace Go.Proofs.YtdeghndcglgfkaaDoor
set_option maxRecDepth 100000
open Go.ChangeShapes Go.WideShapes Go.ChangeAt Go.RowKit

/-- Two numbers: a piece of mail (to, value), a value (A, Label). -/
abbrev Ml := Int × Int
def encM (e : Ml) : List Value := [.int .i64 e.1, .int .i64 e.2]
theorem encM_len (e : Ml) : (encM e).length = 2 := rfl
theorem encM_one (e : Ml) : ∀ u ∈ encM e, u.oneCell' = true := by intro u hu; simp [encM] at hu; rcases hu with rfl | rfl <;> rfl
abbrev MlR := RowK encM 2
def mlB (e : Ml) : Prop := i64B e.1 ∧ i64B e.2
/-- The two cells of a piece of mail, in a slice that reads. -/
theorem MlR.at {w : World} {v : Value} {es : List Ml} (h : MlR w v es) (hn : 0 < es.length) :
    ∃ b off cap, v = .slice (some ⟨b, off, none⟩) es.length cap ∧ es.length ≤ cap ∧ cap ≤ maxLen ∧ b < w.heap.size ∧ ∀ i x, es[i]? = some x →
      w.cell? ⟨b, off + i * 2, none⟩ = some (.int .i64 x.1) ∧ w.cell? ⟨b, off + i * 2 + 1, none⟩ = some (.int .i64 x.2) := by
  obtain ⟨a, cap, rfl, hc, hm, _, hel⟩ := h
  obtain ⟨b, off, rfl, lt, hv⟩ := hel hn
  exact ⟨b, off, cap, rfl, hc, hm, lt, fun i x hx => ⟨hv i x hx 0 _ rfl, hv i x hx 1 _ rfl⟩⟩
end Go.Proofs.YtdeghndcglgfkaaDoor
