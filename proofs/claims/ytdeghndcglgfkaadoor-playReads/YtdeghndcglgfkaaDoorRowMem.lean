/-
  Slices of edges and hops.
-/
import Derived.Test.YtdeghndcglgfkaaDoorRowCore
namespace Go.Proofs.YtdeghndcglgfkaaDoor
set_option maxRecDepth 100000
open Go.ChangeShapes Go.WideShapes Go.ChangeAt Go.RowKit

/-- An edge: from, to, weight. -/
abbrev Ed := Int × Int × Int
/-- A hop: to, weight. -/
abbrev Hp := Int × Int
def encE (e : Ed) : List Value := [.int .i64 e.1, .int .i64 e.2.1, .int .i64 e.2.2]
def encH (e : Hp) : List Value := [.int .i64 e.1, .int .i64 e.2]
theorem encE_len (e : Ed) : (encE e).length = 3 := rfl
theorem encH_len (e : Hp) : (encH e).length = 2 := rfl
theorem encE_one (e : Ed) : ∀ u ∈ encE e, u.oneCell' = true := by intro u hu; simp [encE] at hu; rcases hu with rfl | rfl | rfl <;> rfl
theorem encH_one (e : Hp) : ∀ u ∈ encH e, u.oneCell' = true := by intro u hu; simp [encH] at hu; rcases hu with rfl | rfl <;> rfl
abbrev EdR := RowK encE 3
abbrev HpR := RowK encH 2
def edB (e : Ed) : Prop := i64B e.1 ∧ i64B e.2.1 ∧ i64B e.2.2

/-- The three cells of an edge, in a slice that reads. -/
theorem EdR.at {w : World} {v : Value} {es : List Ed} (h : EdR w v es) (hn : 0 < es.length) :
    ∃ b off cap, v = .slice (some ⟨b, off, none⟩) es.length cap ∧ es.length ≤ cap ∧ cap ≤ maxLen ∧ b < w.heap.size ∧ ∀ i x, es[i]? = some x →
      w.cell? ⟨b, off + i * 3, none⟩ = some (.int .i64 x.1) ∧ w.cell? ⟨b, off + i * 3 + 1, none⟩ = some (.int .i64 x.2.1) ∧ w.cell? ⟨b, off + i * 3 + 2, none⟩ = some (.int .i64 x.2.2) := by
  obtain ⟨a, cap, rfl, hc, hm, _, hel⟩ := h
  obtain ⟨b, off, rfl, lt, hv⟩ := hel hn
  exact ⟨b, off, cap, rfl, hc, hm, lt, fun i x hx => ⟨hv i x hx 0 _ rfl, hv i x hx 1 _ rfl, hv i x hx 2 _ rfl⟩⟩
theorem getE {es : List Ed} {i : Nat} (h : i < es.length) : ∃ x, es[i]? = some x := ⟨es[i], List.getElem?_eq_getElem h⟩
end Go.Proofs.YtdeghndcglgfkaaDoor
