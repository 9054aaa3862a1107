/-
  Ways that came in: what their datum says of memory.
-/
import Derived.Test.YtbmkgnlfccigpabGraphOpen
namespace Go.Proofs.Ytbmkgnlfccigpab
set_option maxRecDepth 100000
open Go.ChangeShapes Go.WideShapes Go.ChangeAt Go.RowKit

theorem open_ways {H : Type} {enc : TypeId × Value → H} {W : World} {v0 : Value} {d0 : DataW H} {p0 : List MemPlace} (hv : ∃ a len cap, v0 = .slice a len cap) (h0 : DataW.Trod enc Try.prog W 0 (fun _ => true) true 22 v0 d0 p0)
    (hs : ∀ m ∈ d0.weights Try.prog 22, m ≤ reachBytes) : ∃ es, EdR W v0 es ∧ (∀ x ∈ es, edB x) ∧ es.length * 24 ≤ 140737488351232 := by
  obtain ⟨a, len, cap, rfl⟩ := hv
  obtain ⟨fuel, hf⟩ := h0
  have e : (Value.slice a len cap).cells.toList = [.slice a len cap] := rfl
  have hf' : DataW.trod enc Try.prog W 0 (fun _ => true) true fuel 22 [.slice a len cap] = some (d0, p0) := by rw [← e]; exact hf
  exact open_threes Try.underlying22 Try.underlying69 (by kernel_rfl) rfl rfl rfl rfl rfl rfl (by kernel_rfl) hf' hs
end Go.Proofs.Ytbmkgnlfccigpab
