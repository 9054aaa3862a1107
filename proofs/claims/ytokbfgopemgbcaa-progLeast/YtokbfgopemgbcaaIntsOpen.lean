/-
  Slices of numbers that came in: what their data say of memory.
-/
import Derived.Test.YtokbfgopemgbcaaTwoOpen
namespace Go.Proofs.Ytokbfgopemgbcaa
set_option maxRecDepth 100000
open Go.ChangeShapes Go.WideShapes Go.ChangeAt Go.RowKit

theorem open_intsR {H : Type} {enc : TypeId × Value → H} {W : World} {v0 : Value} {d0 : DataW H} {p0 : List MemPlace} (hv : ∃ a len cap, v0 = .slice a len cap) (h0 : DataW.Trod enc Try.prog W 0 (fun _ => true) true 24 v0 d0 p0)
    (hs : ∀ m ∈ d0.weights Try.prog 24, m ≤ reachBytes) : ∃ xs, InR W v0 xs ∧ (∀ x ∈ xs, i64B x) ∧ xs.length * 8 ≤ 140737488351232 := by
  obtain ⟨a, len, cap, rfl⟩ := hv
  obtain ⟨fuel, hf⟩ := h0
  have b3 : Try.prog.bytesOf 3 = 8 := by kernel_rfl
  rcases open_ints Try.underlying24 Try.underlying3 cells3M hf with ⟨e1, _⟩ | ⟨x, l, c, zs, e1, _, hle, hm, hz, hx, hcell, hwf⟩
  · simp [Value.cells] at e1
    obtain ⟨rfl, rfl, rfl⟩ := e1
    exact ⟨[], RowK.nil _ _ _, by simp, by simp⟩
  · simp [Value.cells] at e1
    obtain ⟨rfl, rfl, rfl⟩ := e1
    have hz2 : zs.length = cap := by simpa using hz
    have el : (zs.take len).length = len := List.length_take_of_le (by omega)
    simp only [Prod.mk.injEq] at hx
    have hw : ((zs.take len).length + (zs.drop len).length) * Try.prog.bytesOf 3 ≤ reachBytes := by
      refine hs _ ?_
      rw [hx.1]
      simp [DataW.weights, Try.underlying24, lits]
    rw [b3] at hw
    simp only [List.length_take, List.length_drop, reachBytes] at hw
    refine ⟨zs.take len, ⟨some x, cap, by rw [el], by rw [el]; omega, hm, fun e => (by cases e), fun hn => ?_⟩, fun y hy => bounds_i64 (hwf y (List.mem_of_mem_take hy)), by rw [el]; omega⟩
    rw [el] at hn
    have h0 := hcell 0 (by omega)
    obtain ⟨b, off, spot⟩ := x
    have hsp : spot = none := by simpa [Addr.add] using World.cell?_spot h0
    subst hsp
    refine ⟨b, off, rfl, World.block_lt_of_cell? W _ h0, fun i y hy j u hu => ?_⟩
    have hi : i < len := by have := (List.getElem?_eq_some_iff.1 hy).1; rw [el] at this; exact this
    have hc := hcell i (by omega)
    rw [addr_plus] at hc
    cases j with
    | zero =>
      simp [encI] at hu
      subst hu
      rw [Nat.mul_one, Nat.add_zero, hc, List.getD_eq_getElem?_getD]
      rw [List.getElem?_take_of_lt hi] at hy
      rw [hy]
      rfl
    | succ j => simp [encI] at hu
end Go.Proofs.Ytokbfgopemgbcaa
