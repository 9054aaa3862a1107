/-
  Bytes that came in: what their data say of memory.
-/
import Derived.Test.YthakibcfmbkpkaaDoorRowBase
import Derived.Deep.Slices
import Derived.Deep.Strs
import Derived.SizedLaws
import Derived.ShutString
import Derived.ChangeOld
import Derived.Below
namespace Go.Proofs.YthakibcfmbkpkaaDoor
set_option maxRecDepth 100000
open Go.ChangeShapes Go.WideShapes Go.ChangeAt Go.RowKit

theorem open_bytes {H : Type} {enc : TypeId × Value → H} {W : World} {v0 : Value} {d0 : DataW H} {p0 : List MemPlace} (hv : ∃ a len cap, v0 = .slice a len cap) (h0 : DataW.Trod enc Tryd.prog W 0 (fun _ => true) true 44 v0 d0 p0)
    (hs : ∀ m ∈ d0.weights Tryd.prog 44, m ≤ reachBytes) : ∃ xs, Reads .u8 W v0 xs ∧ (∀ x ∈ xs, 0 ≤ x ∧ x ≤ 255) ∧ xs.length ≤ 140737488351232 := by
  have cells5 : Tryd.prog.cellsOf 5 = 1 := by kernel_rfl
  have bytes5 : Tryd.prog.bytesOf 5 = 1 := by kernel_rfl
  obtain ⟨a, len, cap, rfl⟩ := hv
  obtain ⟨fuel, hf⟩ := h0
  rcases open_ints Tryd.underlying44 Tryd.underlying5 cells5 hf with ⟨e1, _⟩ | ⟨x, l, c, zs, e1, _, hle, hm, hz, hx, hcell, hwf⟩
  · simp [Value.cells] at e1
    obtain ⟨rfl, rfl, rfl⟩ := e1
    exact ⟨[], ⟨none, 0, rfl, by simp, by simp [maxLen], fun _ => rfl, fun x hx => by cases hx⟩, by simp, by simp⟩
  · simp [Value.cells] at e1
    obtain ⟨rfl, rfl, rfl⟩ := e1
    have hz2 : zs.length = cap := by simpa using hz
    have el : (zs.take len).length = len := List.length_take_of_le (by omega)
    simp only [Prod.mk.injEq] at hx
    have hw : ((zs.take len).length + (zs.drop len).length) * Tryd.prog.bytesOf 5 ≤ reachBytes := by
      refine hs _ ?_
      rw [hx.1]
      simp [DataW.weights, Tryd.underlying44, lits]
    rw [bytes5] at hw
    simp only [List.length_take, List.length_drop, reachBytes] at hw
    refine ⟨zs.take len, ⟨some x, cap, by rw [el], by rw [el]; omega, hm, fun e => (by cases e), fun y hy j hj => ?_⟩, bytes_wf (fun n hn => hwf n (List.mem_of_mem_take hn)), by rw [el]; omega⟩
    injection hy with hy
    subst hy
    rw [el] at hj
    rw [hcell j (by omega), List.getD_eq_getElem?_getD, List.getD_eq_getElem?_getD, List.getElem?_take_of_lt hj]
end Go.Proofs.YthakibcfmbkpkaaDoor
