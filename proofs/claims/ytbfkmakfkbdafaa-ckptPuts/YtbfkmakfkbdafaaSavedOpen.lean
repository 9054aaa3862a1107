/-
  What is saved, as it comes in: what its data say of memory.
-/
import Derived.Test.YtbfkmakfkbdafaaTwoOpen
import Derived.Test.YtbfkmakfkbdafaaSavedMath
namespace Go.Proofs.Ytbfkmakfkbdafaa
set_option maxRecDepth 100000
open Go.ChangeShapes Go.WideShapes Go.ChangeAt Go.RowKit

/-- How great the parts of what is saved may be. -/
def SavB (s : SvS) : Prop := ((∀ x ∈ s.vals, mlB x) ∧ s.vals.length * 16 ≤ 140737488351232) ∧ (∀ x ∈ s.mail, mlB x) ∧ s.mail.length * 16 ≤ 140737488351232
set_option maxHeartbeats 400000 in
theorem open_saved {H : Type} {enc : TypeId × Value → H} {W : World} {v0 : Value} {d0 : DataW H} {p0 : List MemPlace} (hv : ∃ cs, v0 = .agg cs ∧ cs.size = Try.prog.cellsOf 25) (h0 : DataW.Trod enc Try.prog W 0 (fun _ => true) true 25 v0 d0 p0)
    (hs : ∀ m ∈ d0.weights Try.prog 25, m ≤ reachBytes) : ∃ (s : SvS) (vv vm : Value), v0 = .agg #[.int .i64 s.step, .int .i64 s.phase, .bool s.fresh, vv, vm] ∧ (i64B s.step ∧ i64B s.phase) ∧ MlR W vv s.vals ∧ MlR W vm s.mail ∧ SavB s := by
  obtain ⟨cs, rfl, hcs⟩ := hv
  have hc1 : Try.prog.cellsOf 25 = 5 := by kernel_rfl
  have hc3 : Try.prog.cellsOf 3 = 1 := by kernel_rfl
  have hc4 : Try.prog.cellsOf 4 = 1 := by kernel_rfl
  have hc5 : Try.prog.cellsOf 22 = 1 := by kernel_rfl
  have hc6 : Try.prog.cellsOf 23 = 1 := by kernel_rfl
  rw [hc1] at hcs
  obtain ⟨c0, c1, c2, c3, c4, rfl⟩ : ∃ c0 c1 c2 c3 c4, cs = #[c0, c1, c2, c3, c4] := by
    obtain ⟨l⟩ := cs
    match l, hcs with
    | [c0, c1, c2, c3, c4], _ => exact ⟨c0, c1, c2, c3, c4, rfl⟩
  obtain ⟨fuel, hf⟩ := h0
  obtain ⟨xs, n, _, hx, _, hxl, hfld⟩ := DataW.trod_struct Try.underlying25 hf
  have h0 := hfld 0 _ rfl
  have h1 := hfld 1 _ rfl
  have h2 := hfld 2 _ rfl
  have h3 := hfld 3 _ rfl
  have h4 := hfld 4 _ rfl
  match xs, hxl with
  | [y0, y1, y2, y3, y4], _ =>
    have e0 : ((Value.agg #[c0, c1, c2, c3, c4]).cells.toList.drop 0).take (Try.prog.cellsOf 3) = [c0] := by rw [hc3]; rfl
    have e1 : ((Value.agg #[c0, c1, c2, c3, c4]).cells.toList.drop 1).take (Try.prog.cellsOf 3) = [c1] := by rw [hc3]; rfl
    have e2 : ((Value.agg #[c0, c1, c2, c3, c4]).cells.toList.drop 2).take (Try.prog.cellsOf 4) = [c2] := by rw [hc4]; rfl
    have e3 : ((Value.agg #[c0, c1, c2, c3, c4]).cells.toList.drop 3).take (Try.prog.cellsOf 22) = [c3] := by rw [hc5]; rfl
    have e4 : ((Value.agg #[c0, c1, c2, c3, c4]).cells.toList.drop 4).take (Try.prog.cellsOf 23) = [c4] := by rw [hc6]; rfl
    simp only [List.getElem?_cons_zero, List.getElem?_cons_succ] at h0 h1 h2 h3 h4
    have h0' : DataW.trod enc Try.prog W 0 (fun _ => true) true n 3 [c0] = some y0 := by rw [← e0]; exact h0
    have h1' : DataW.trod enc Try.prog W 0 (fun _ => true) true n 3 [c1] = some y1 := by rw [← e1]; exact h1
    have h2' : DataW.trod enc Try.prog W 0 (fun _ => true) true n 4 [c2] = some y2 := by rw [← e2]; exact h2
    have h3' : DataW.trod enc Try.prog W 0 (fun _ => true) true n 22 [c3] = some y3 := by rw [← e3]; exact h3
    have h4' : DataW.trod enc Try.prog W 0 (fun _ => true) true n 23 [c4] = some y4 := by rw [← e4]; exact h4
    obtain ⟨i0, ei0, _, hi0⟩ := DataW.trod_int Try.underlying3 h0'
    obtain ⟨i1, ei1, _, hi1⟩ := DataW.trod_int Try.underlying3 h1'
    obtain ⟨b2, eb2, _⟩ := DataW.trod_bool Try.underlying4 h2'
    simp only [List.cons.injEq, and_true] at ei0 ei1 eb2
    subst ei0 ei1 eb2
    simp only [Prod.mk.injEq] at hx
    obtain ⟨rfl, _⟩ := hx
    have hs4 : ∀ m ∈ y3.1.weights Try.prog 22, m ≤ reachBytes := fun m hm => hs m (by
      simp only [DataW.weights, Try.underlying25, List.map_cons, List.map_nil, DataW.weightsEach, List.mem_append]
      simp [hm])
    have hs5 : ∀ m ∈ y4.1.weights Try.prog 23, m ≤ reachBytes := fun m hm => hs m (by
      simp only [DataW.weights, Try.underlying25, List.map_cons, List.map_nil, DataW.weightsEach, List.mem_append]
      simp [hm])
    obtain ⟨vs, hR, hB, hL⟩ := open_twos Try.underlying22 Try.underlying52 (by kernel_rfl) rfl rfl rfl rfl (by kernel_rfl) h3' hs4
    obtain ⟨ms, kR, kB, kL⟩ := open_twos Try.underlying23 Try.underlying54 (by kernel_rfl) rfl rfl rfl rfl (by kernel_rfl) h4' hs5
    exact ⟨⟨i0, i1, b2, vs, ms⟩, c3, c4, rfl, ⟨bounds_i64 hi0, bounds_i64 hi1⟩, hR, kR, ⟨hB, hL⟩, kB, kL⟩
end Go.Proofs.Ytbfkmakfkbdafaa
