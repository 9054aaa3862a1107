/-
  Lists of mail that came in: what their data say of memory.
-/
import Derived.Test.YtkgdenbabafeoaaGreatDoorMailLists
import Derived.Test.YtkgdenbabafeoaaGreatDoorMailTwo
import Derived.Deep.Slices
import Derived.Deep.Strs
import Derived.SizedLaws
import Derived.ShutString
import Derived.ChangeOld
import Derived.Below
namespace Go.Proofs.YtkgdenbabafeoaaGreatDoor
set_option maxRecDepth 100000
open Go.ChangeShapes Go.WideShapes Go.ChangeAt Go.RowKit

theorem weights_allM {H : Type} {P : Program} {e : TypeId} : ∀ {ds : List (DataW H)} {d : DataW H}, d ∈ ds → ∀ n ∈ d.weights P e, n ∈ DataW.weightsAll P e ds
  | d0 :: ds, d, hd, n, hn => by
    simp only [DataW.weightsAll, List.mem_append]
    rcases List.mem_cons.1 hd with rfl | hd
    · exact .inl hn
    · exact .inr (weights_allM hd n hn)
set_option maxHeartbeats 400000 in
/-- Lists of mail. -/
theorem open_lists {H : Type} {enc : TypeId × Value → H} {W : World} {v0 : Value} {d0 : DataW H} {p0 : List MemPlace} (hv : ∃ a len cap, v0 = .slice a len cap) (h0 : DataW.Trod enc Tryz.prog W 0 (fun _ => true) true 134 v0 d0 p0)
    (hs : ∀ m ∈ d0.weights Tryz.prog 134, m ≤ reachBytes) : ∃ f, LmR W v0 f ∧ (∀ l ∈ f, (∀ x ∈ l, mlB x) ∧ l.length * 16 ≤ 140737488351232) ∧ f.length * 24 ≤ 140737488351232 := by
  obtain ⟨a0, len0, cap0, rfl⟩ := hv
  obtain ⟨fuel, hf0⟩ := h0
  have hf : DataW.trod enc Tryz.prog W 0 (fun _ => true) true fuel 134 [.slice a0 len0 cap0] = some (d0, p0) := hf0
  rcases Go.Deep.open_slice Tryz.underlying134 hf with ⟨e1, _⟩ | ⟨a, len, cap, m, n', D, Pl, e1, _, hl, hm, hmm, hy, hel⟩
  · simp only [List.cons.injEq, and_true] at e1
    rw [e1]
    exact ⟨[], LmR.nil _, by simp, by simp⟩
  · simp only [List.cons.injEq, and_true] at e1
    rw [e1]
    simp only [if_true] at hmm
    subst hmm
    simp only [Prod.mk.injEq] at hy
    obtain ⟨rfl, _⟩ := hy
    have hc1 : Tryz.prog.cellsOf 26 = 1 := by kernel_rfl
    have hby : Tryz.prog.bytesOf 26 = 24 := by kernel_rfl
    have hw : (((List.range len).map D).length + ((List.range (m - len)).map fun j => D (len + j)).length) * Tryz.prog.bytesOf 26 ≤ reachBytes := by
      refine hs _ ?_
      simp [DataW.weights, Tryz.underlying134]
    rw [hby] at hw
    simp only [List.length_map, List.length_range, reachBytes] at hw
    rw [hc1] at hel
    have each : ∀ i, i < len → ∃ y : List Ml, (∃ u, W.cell? ⟨a.block, a.off + i, none⟩ = some u ∧ MlR W u y) ∧ a.spot = none ∧ a.block < W.heap.size ∧ (∀ x ∈ y, mlB x) ∧ y.length * 16 ≤ 140737488351232 := by
      intro i hi
      obtain ⟨cs', hc, ht⟩ := hel i (by omega)
      have hs3 : ∀ q ∈ (D i).weights Tryz.prog 26, q ≤ reachBytes := fun q hq => hs q (by
        simp only [DataW.weights, Tryz.underlying134, List.mem_cons, List.mem_append]
        exact .inr (.inl (weights_allM (List.mem_map.2 ⟨i, by simpa using hi, rfl⟩) q hq)))
      obtain ⟨_, hcl, hcell⟩ := World.cells?_some hc
      obtain ⟨u, rfl⟩ : ∃ u, cs' = [u] := by
        match cs', hcl with
        | [u], _ => exact ⟨u, rfl⟩
      obtain ⟨es, hR, hB, hL⟩ := open_mailsF ht hs3
      have k0 := hcell 0 (by omega)
      rw [addr_addrM] at k0
      simp only [List.getElem?_cons_zero] at k0
      have hsp : a.spot = none := by
        obtain ⟨cs0, hc0, ht0⟩ := hel 0 (by omega)
        obtain ⟨_, hl0, hcell0⟩ := World.cells?_some hc0
        have q0 := hcell0 0 (by omega)
        have e0 : (a.add (0 * 1)).add 0 = a := by simp [Addr.add]
        rw [e0] at q0
        rw [List.getElem?_eq_getElem (by omega)] at q0
        exact World.cell?_spot q0
      obtain ⟨ab, ao, asp⟩ := a
      simp only at hsp
      subst hsp
      rw [addr_plus] at k0
      simp only [Nat.mul_one, Nat.add_zero] at k0
      exact ⟨es, ⟨u, k0, hR⟩, rfl, World.block_lt_of_cell? W ⟨ab, ao + i, none⟩ k0, hB, hL⟩
    obtain ⟨F, hF⟩ := @Go.Deep.choose_lt (List Ml) ⟨[]⟩ len _ each
    have hfl : ((List.range len).map F).length = len := by simp
    refine ⟨(List.range len).map F, ⟨some a, m, by rw [hfl], by rw [hfl]; exact hl, hm, fun hn => ?_⟩, fun l hl2 => ?_, by rw [hfl]; omega⟩
    · rw [hfl] at hn
      obtain ⟨_, hsp, hlt, _⟩ := hF 0 hn
      refine ⟨a.block, a.off, by obtain ⟨ab, ao, asp⟩ := a; simp only at hsp; subst hsp; rfl, hlt, fun i x hx => ?_⟩
      rw [List.getElem?_map] at hx
      rcases Nat.lt_or_ge i len with h' | h'
      · rw [List.getElem?_range h'] at hx
        simp at hx
        subst hx
        exact (hF i h').1
      · rw [List.getElem?_eq_none (by simpa using h')] at hx; cases hx
    · obtain ⟨i, hi, rfl⟩ := List.mem_map.1 hl2
      exact (hF i (by simpa using hi)).2.2.2
end Go.Proofs.YtkgdenbabafeoaaGreatDoor
