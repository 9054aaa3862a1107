/-
  A graph that came in, and a slice of structs of three numbers: what their data say of memory.
-/
import Derived.Test.YtdeghndcglgfkaaDoorRowMem
import Derived.Deep.Slices
import Derived.Deep.Strs
import Derived.SizedLaws
import Derived.ShutString
import Derived.ChangeOld
import Derived.Below
namespace Go.Proofs.YtdeghndcglgfkaaDoor
set_option maxRecDepth 100000
open Go.ChangeShapes Go.WideShapes Go.ChangeAt Go.RowKit

theorem addr_addr (a : Addr) (i j : Nat) : (a.add i).add j = a.add (i + j) := Go.Deep.add_add a i j
theorem cells3 : Tryd.prog.cellsOf 3 = 1 := by kernel_rfl

/-- One struct of three numbers, opened. -/
theorem open_three {H : Type} {enc : TypeId × Value → H} {w : World} {n : Nat} {t : TypeId} {f0 f1 f2 : Field} (ht : Tryd.prog.underlying t = some (.struct #[f0, f1, f2])) (h3 : Tryd.prog.cellsOf t = 3) (t0 : f0.type = 3) (t1 : f1.type = 3) (t2 : f2.type = 3) (o0 : f0.offset = 0) (o1 : f1.offset = 1) (o2 : f2.offset = 2)
    {cs : List Value} {x : DataW H × List MemPlace} (h : DataW.trod enc Tryd.prog w 0 (fun _ => true) true n t cs = some x) :
    ∃ e : Ed, cs = encE e ∧ edB e := by
  obtain ⟨y0, y1, y2, m, rfl, hl, h0, h1, h2⟩ := Go.Deep.trod_struct3 ht h
  rw [h3] at hl
  rw [t0, o0] at h0
  rw [t1, o1] at h1
  rw [t2, o2] at h2
  match cs, hl with
  | [c0, c1, c2], _ =>
    simp only [cells3, List.drop_zero, List.drop_succ_cons, List.take_succ_cons, List.take_zero] at h0 h1 h2
    obtain ⟨i0, e0, _, hi0⟩ := DataW.trod_int Tryd.underlying3 h0
    obtain ⟨i1, e1, _, hi1⟩ := DataW.trod_int Tryd.underlying3 h1
    obtain ⟨i2, e2, _, hi2⟩ := DataW.trod_int Tryd.underlying3 h2
    simp only [List.cons.injEq, and_true] at e0 e1 e2
    subst e0 e1 e2
    exact ⟨(i0, i1, i2), rfl, bounds_i64 hi0, bounds_i64 hi1, bounds_i64 hi2⟩

set_option maxHeartbeats 400000 in
/-- A slice of structs of three numbers. -/
theorem open_threes {H : Type} {enc : TypeId × Value → H} {W : World} {t e : TypeId} {f0 f1 f2 : Field} (hu : Tryd.prog.underlying t = some (.slice e)) (ht : Tryd.prog.underlying e = some (.struct #[f0, f1, f2])) (h3 : Tryd.prog.cellsOf e = 3) (t0 : f0.type = 3) (t1 : f1.type = 3) (t2 : f2.type = 3) (o0 : f0.offset = 0) (o1 : f1.offset = 1) (o2 : f2.offset = 2) (hby : Tryd.prog.bytesOf e = 24)
    {fuel : Nat} {v : Value} {y : DataW H × List MemPlace} (hf : DataW.trod enc Tryd.prog W 0 (fun _ => true) true fuel t [v] = some y) (hs : ∀ m ∈ y.1.weights Tryd.prog t, m ≤ reachBytes) :
    ∃ es, EdR W v es ∧ (∀ x ∈ es, edB x) ∧ es.length * 24 ≤ 140737488351232 := by
  rcases Go.Deep.open_slice hu hf with ⟨e1, _⟩ | ⟨a, len, cap, m, n', D, Pl, e1, _, hl, hm, hmm, rfl, hel⟩
  · simp only [List.cons.injEq, and_true] at e1
    subst e1
    exact ⟨[], RowK.nil _ _ _, by simp, by simp⟩
  · simp only [List.cons.injEq, and_true] at e1
    subst e1
    simp only [if_true] at hmm
    subst hmm
    have hw : (((List.range len).map D).length + ((List.range (m - len)).map fun j => D (len + j)).length) * Tryd.prog.bytesOf e ≤ reachBytes := by
      refine hs _ ?_
      simp [DataW.weights, hu]
    rw [hby] at hw
    simp only [List.length_map, List.length_range, reachBytes] at hw
    rw [h3] at hel
    have each : ∀ i, i < len → ∃ y : Ed, (∀ j u, (encE y)[j]? = some u → W.cell? ⟨a.block, a.off + i * 3 + j, none⟩ = some u) ∧ a.spot = none ∧ a.block < W.heap.size ∧ edB y := by
      intro i hi
      obtain ⟨cs', hc, htr⟩ := hel i (by omega)
      obtain ⟨x, rfl, hb⟩ := open_three ht h3 t0 t1 t2 o0 o1 o2 htr
      obtain ⟨_, _, hcell⟩ := World.cells?_some hc
      have hsp : a.spot = none := by
        obtain ⟨cs0, hc0, ht0⟩ := hel 0 (by omega)
        obtain ⟨_, hl0, hcell0⟩ := World.cells?_some hc0
        have q0 := hcell0 0 (by omega)
        have e0 : (a.add (0 * 3)).add 0 = a := by simp [Addr.add]
        rw [e0] at q0
        rw [List.getElem?_eq_getElem (by omega)] at q0
        exact World.cell?_spot q0
      obtain ⟨ab, ao, asp⟩ := a
      simp only at hsp
      subst hsp
      have hadd : ∀ t, (⟨ab, ao, none⟩ : Addr).add t = ⟨ab, ao + t, none⟩ := fun t => by unfold Addr.add; split <;> simp_all
      have hk : ∀ j, j < 3 → W.cell? ⟨ab, ao + i * 3 + j, none⟩ = (encE x)[j]? := fun j hj => by
        have := hcell j hj
        rw [addr_addr, hadd, ← Nat.add_assoc] at this
        exact this
      refine ⟨x, fun j u hju => ?_, rfl, World.block_lt_of_cell? W ⟨ab, ao + i * 3 + 0, none⟩ (hk 0 (by omega)), hb⟩
      have hj : j < 3 := by
        rcases Nat.lt_or_ge j 3 with h' | h'
        · exact h'
        · rw [List.getElem?_eq_none h'] at hju; cases hju
      rw [hk j hj]; exact hju
    obtain ⟨F, hF⟩ := @Go.Deep.choose_lt Ed ⟨(0, 0, 0)⟩ len _ each
    have hfl : ((List.range len).map F).length = len := by simp
    refine ⟨(List.range len).map F, ⟨some a, m, by rw [hfl], by rw [hfl]; exact hl, hm, fun e => (by cases e), fun hn => ?_⟩, fun x hx => ?_, by rw [hfl]; omega⟩
    · rw [hfl] at hn
      obtain ⟨_, hsp, hlt, _⟩ := hF 0 hn
      refine ⟨a.block, a.off, by obtain ⟨ab, ao, asp⟩ := a; simp only at hsp; subst hsp; rfl, hlt, fun i x hx j u hju => ?_⟩
      rw [List.getElem?_map] at hx
      rcases Nat.lt_or_ge i len with h' | h'
      · rw [List.getElem?_range h'] at hx
        simp at hx
        subst hx
        exact (hF i h').1 j u hju
      · rw [List.getElem?_eq_none (by simpa using h')] at hx; cases hx
    · obtain ⟨i, hi, rfl⟩ := List.mem_map.1 hx
      exact (hF i (by simpa using hi)).2.2.2

end Go.Proofs.YtdeghndcglgfkaaDoor
