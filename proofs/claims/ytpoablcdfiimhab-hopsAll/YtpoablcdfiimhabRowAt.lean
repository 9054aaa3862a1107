/-
  The cells of hops and of numbers in slices that read.
-/
import Derived.Test.YtpoablcdfiimhabRowAppend
namespace Go.Proofs.Ytpoablcdfiimhab
open Go.ChangeShapes Go.WideShapes Go.ChangeAt Go.RowKit

theorem HpR.at {w : World} {v : Value} {es : List Hp} (h : HpR w v es) (hn : 0 < es.length) :
    ∃ b off cap, v = .slice (some ⟨b, off, none⟩) es.length cap ∧ es.length ≤ cap ∧ cap ≤ maxLen ∧ b < w.heap.size ∧ ∀ i x, es[i]? = some x →
      w.cell? ⟨b, off + i * 2, none⟩ = some (.int .i64 x.1) ∧ w.cell? ⟨b, off + i * 2 + 1, none⟩ = some (.int .i64 x.2) := by
  obtain ⟨a, cap, rfl, hc, hm, _, hel⟩ := h
  obtain ⟨b, off, rfl, lt, hv⟩ := hel hn
  exact ⟨b, off, cap, rfl, hc, hm, lt, fun i x hx => ⟨hv i x hx 0 _ rfl, hv i x hx 1 _ rfl⟩⟩
abbrev InR := RowK encI 1
theorem InR.at {w : World} {v : Value} {es : List Int} (h : InR w v es) (hn : 0 < es.length) :
    ∃ b off cap, v = .slice (some ⟨b, off, none⟩) es.length cap ∧ es.length ≤ cap ∧ cap ≤ maxLen ∧ b < w.heap.size ∧ ∀ i x, es[i]? = some x → w.cell? ⟨b, off + i, none⟩ = some (.int .i64 x) := by
  obtain ⟨a, cap, rfl, hc, hm, _, hel⟩ := h
  obtain ⟨b, off, rfl, lt, hv⟩ := hel hn
  exact ⟨b, off, cap, rfl, hc, hm, lt, fun i x hx => by have := hv i x hx 0 _ rfl; rwa [Nat.mul_one] at this⟩
theorem getX {α : Type} {es : List α} {i : Nat} (h : i < es.length) : ∃ x, es[i]? = some x := ⟨es[i], List.getElem?_eq_getElem h⟩
end Go.Proofs.Ytpoablcdfiimhab
