/-
  Slices of mail that came in: what their data say of memory.
-/
import Derived.Test.YtkgdenbabafeoaaGreatDoorMailMem
import Derived.Test.YtkgdenbabafeoaaGreatDoorTwoOpen
namespace Go.Proofs.YtkgdenbabafeoaaGreatDoor
set_option maxRecDepth 100000
open Go.ChangeShapes Go.WideShapes Go.ChangeAt Go.RowKit

theorem open_mailsF {H : Type} {enc : TypeId × Value → H} {W : World} {fuel : Nat} {v : Value} {y : DataW H × List MemPlace} (hf : DataW.trod enc Tryz.prog W 0 (fun _ => true) true fuel 26 [v] = some y) (hs : ∀ m ∈ y.1.weights Tryz.prog 26, m ≤ reachBytes) :
    ∃ es, MlR W v es ∧ (∀ x ∈ es, mlB x) ∧ es.length * 16 ≤ 140737488351232 :=
  open_twos Tryz.underlying26 Tryz.underlying62 (by kernel_rfl) rfl rfl rfl rfl (by kernel_rfl) hf hs
theorem cells_one {a : Option Addr} {len cap : Nat} : (Value.slice a len cap).cells.toList = [.slice a len cap] := rfl
theorem open_mails {H : Type} {enc : TypeId × Value → H} {W : World} {v0 : Value} {d0 : DataW H} {p0 : List MemPlace} (hv : ∃ a len cap, v0 = .slice a len cap) (h0 : DataW.Trod enc Tryz.prog W 0 (fun _ => true) true 26 v0 d0 p0)
    (hs : ∀ m ∈ d0.weights Tryz.prog 26, m ≤ reachBytes) : ∃ es, MlR W v0 es ∧ (∀ x ∈ es, mlB x) ∧ es.length * 16 ≤ 140737488351232 := by
  obtain ⟨a, len, cap, rfl⟩ := hv
  obtain ⟨fuel, hf⟩ := h0
  exact open_mailsF hf hs
end Go.Proofs.YtkgdenbabafeoaaGreatDoor
