/-
  Structs of two numbers, and slices of them, that came in: what their data say of memory.
-/
import Derived.Test.YtdeghndcglgfkaaDoorTwoMem
import Derived.Deep.Slices
import Derived.Deep.Strs
import Derived.SizedLaws
import Derived.ShutString
import Derived.ChangeOld
import Derived.Below
namespace Go.Proofs.YtdeghndcglgfkaaDoor
set_option maxRecDepth 100000
open Go.ChangeShapes Go.WideShapes Go.ChangeAt Go.RowKit

theorem addr_addrM (a : Addr) (i j : Nat) : (a.add i).add j = a.add (i + j) := Go.Deep.add_add a i j
theorem cells3M : Tryd.prog.cellsOf 3 = 1 := by kernel_rfl

/-- One struct of two numbers, opened. -/
theorem open_two {H : Type} {enc : TypeId × Value → H} {w : World} {n : Nat} {t : TypeId} {f0 f1 : Field} (ht : Tryd.prog.underlying t = some (.struct #[f0, f1])) (hsz2 : Tryd.prog.cellsOf t = 2) (t0 : f0.type = 3) (t1 : f1.type = 3) (o0 : f0.offset = 0) (o1 : f1.offset = 1)
    {cs : List Value} {x : DataW H × List MemPlace} (h : DataW.trod enc Tryd.prog w 0 (fun _ => true) true n t cs = some x) :
    ∃ e : Ml, cs = encM e ∧ mlB e := by
  obtain ⟨y0, y1, m, rfl, hl, h0, h1⟩ := trod_struct2 ht h
  rw [hsz2] at hl
  rw [t0, o0] at h0
  rw [t1, o1] at h1
  match cs, hl with
  | [c0, c1], _ =>
    simp only [cells3M, List.drop_zero, List.drop_succ_cons, List.take_succ_cons, List.take_zero] at h0 h1
    obtain ⟨i0, e0, _, hi0⟩ := DataW.trod_int Tryd.underlying3 h0
    obtain ⟨i1, e1, _, hi1⟩ := DataW.trod_int Tryd.underlying3 h1
    simp only [List.cons.injEq, and_true] at e0 e1
    subst e0 e1
    exact ⟨(i0, i1), rfl, bounds_i64 hi0, bounds_i64 hi1⟩

set_option maxHeartbeats 400000 in
/-- A slice of structs of two numbers. -/
theorem open_twos {H : Type} {enc : TypeId × Value → H} {W : World} {t e : TypeId} {f0 f1 : Field} (hu : Tryd.prog.underlying t = some (.slice e)) (ht : Tryd.prog.underlying e = some (.struct #[f0, f1])) (hsz2 : Tryd.prog.cellsOf e = 2) (t0 : f0.type = 3) (t1 : f1.type = 3) (o0 : f0.offset = 0) (o1 : f1.offset = 1) (hby : Tryd.prog.bytesOf e = 16)
    {fuel : Nat} {v : Value} {y : DataW H × List MemPlace} (hf : DataW.trod enc Tryd.prog W 0 (fun _ => true) true fuel t [v] = some y) (hs : ∀ m ∈ y.1.weights Tryd.prog t, m ≤ reachBytes) :
    ∃ es, MlR W v es ∧ (∀ x ∈ es, mlB x) ∧ es.length * 16 ≤ 140737488351232 := by
  rcases Go.Deep.open_slice hu hf with ⟨e1, _⟩ | ⟨a, len, cap, m, n', D, Pl, e1, _, hl, hm, hmm, rfl, hel⟩
  · simp only [List.cons.injEq, and_true] at e1
    subst e1
    exact ⟨[], RowK.nil _ _ _, by simp, by simp⟩
  · simp only [List.cons.injEq, and_true] at e1
    subst e1
    simp only [if_true] at hmm
    subst hmm
    have hw : (((List.range len).map D).length + ((List.range (m - len)).map fun j => D (len + j)).length) * Tryd.prog.bytesOf e ≤ reachBytes := by
      refine hs _ ?_
      simp [DataW.weights, hu]
    rw [hby] at hw
    simp only [List.length_map, List.length_range, reachBytes] at hw
    rw [hsz2] at hel
    have each : ∀ i, i < len → ∃ y : Ml, (∀ j u, (encM y)[j]? = some u → W.cell? ⟨a.block, a.off + i * 2 + j, none⟩ = some u) ∧ a.spot = none ∧ a.block < W.heap.size ∧ mlB y := by
      intro i hi
      obtain ⟨cs', hc, htr⟩ := hel i (by omega)
      obtain ⟨x, rfl, hb⟩ := open_two ht hsz2 t0 t1 o0 o1 htr
      obtain ⟨_, _, hcell⟩ := World.cells?_some hc
      have hsp : a.spot = none := by
        obtain ⟨cs0, hc0, ht0⟩ := hel 0 (by omega)
        obtain ⟨_, hl0, hcell0⟩ := World.cells?_some hc0
        have q0 := hcell0 0 (by omega)
        have e0 : (a.add (0 * 2)).add 0 = a := by simp [Addr.add]
        rw [e0] at q0
        rw [List.getElem?_eq_getElem (by omega)] at q0
        exact World.cell?_spot q0
      obtain ⟨ab, ao, asp⟩ := a
      simp only at hsp
      subst hsp
      have hadd : ∀ t, (⟨ab, ao, none⟩ : Addr).add t = ⟨ab, ao + t, none⟩ := fun t => by unfold Addr.add; split <;> simp_all
      have hk : ∀ j, j < 2 → W.cell? ⟨ab, ao + i * 2 + j, none⟩ = (encM x)[j]? := fun j hj => by
        have := hcell j hj
        rw [addr_addrM, hadd, ← Nat.add_assoc] at this
        exact this
      refine ⟨x, fun j u hju => ?_, rfl, World.block_lt_of_cell? W ⟨ab, ao + i * 2 + 0, none⟩ (hk 0 (by omega)), hb⟩
      have hj : j < 2 := by
        rcases Nat.lt_or_ge j 2 with h' | h'
        · exact h'
        · rw [List.getElem?_eq_none h'] at hju; cases hju
      rw [hk j hj]; exact hju
    obtain ⟨F, hF⟩ := @Go.Deep.choose_lt Ml ⟨(0, 0)⟩ len _ each
    have hfl : ((List.range len).map F).length = len := by simp
    refine ⟨(List.range len).map F, ⟨some a, m, by rw [hfl], by rw [hfl]; exact hl, hm, fun e => (by cases e), fun hn => ?_⟩, fun x hx => ?_, by rw [hfl]; omega⟩
    · rw [hfl] at hn
      obtain ⟨_, hsp, hlt, _⟩ := hF 0 hn
      refine ⟨a.block, a.off, by obtain ⟨ab, ao, asp⟩ := a; simp only at hsp; subst hsp; rfl, hlt, fun i x hx j u hju => ?_⟩
      rw [List.getElem?_map] at hx
      rcases Nat.lt_or_ge i len with h' | h'
      · rw [List.getElem?_range h'] at hx
        simp at hx
        subst hx
        exact (hF i h').1 j u hju
      · rw [List.getElem?_eq_none (by simpa using h')] at hx; cases hx
    · obtain ⟨i, hi, rfl⟩ := List.mem_map.1 hx
      exact (hF i (by simpa using hi)).2.2.2


theorem open_pair {H : Type} {enc : TypeId × Value → H} {W : World} {t : TypeId} {f0 f1 : Field} (ht : Tryd.prog.underlying t = some (.struct #[f0, f1])) (hsz2 : Tryd.prog.cellsOf t = 2) (t0 : f0.type = 3) (t1 : f1.type = 3) (o0 : f0.offset = 0) (o1 : f1.offset = 1)
    {v0 : Value} {d0 : DataW H} {p0 : List MemPlace} (hv : ∃ cs, v0 = .agg cs ∧ cs.size = Tryd.prog.cellsOf t) (h0 : DataW.Trod enc Tryd.prog W 0 (fun _ => true) true t v0 d0 p0) :
    ∃ e : Ml, v0 = .agg #[.int .i64 e.1, .int .i64 e.2] ∧ mlB e := by
  obtain ⟨cs, rfl, hcs⟩ := hv
  obtain ⟨fuel, hf⟩ := h0
  obtain ⟨e, he, hb⟩ := open_two ht hsz2 t0 t1 o0 o1 hf
  refine ⟨e, ?_, hb⟩
  obtain ⟨l⟩ := cs
  have : l = encM e := he
  rw [this]
  rfl
end Go.Proofs.YtdeghndcglgfkaaDoor
