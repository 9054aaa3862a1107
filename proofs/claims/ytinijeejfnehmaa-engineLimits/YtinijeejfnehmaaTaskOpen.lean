/-
  Tasks that came in: what their data say of memory.
-/
import Derived.Test.YtinijeejfnehmaaJobOpen
namespace Go.Proofs.Ytinijeejfnehmaa
set_option maxRecDepth 100000
open Go.ChangeShapes Go.WideShapes Go.ChangeAt Go.RowKit

set_option maxHeartbeats 400000 in
theorem open_task {H : Type} {enc : TypeId × Value → H} {W : World} {v0 : Value} {d0 : DataW H} {p0 : List MemPlace} (hv : ∃ cs, v0 = .agg cs ∧ cs.size = Try.prog.cellsOf 28) (h0 : DataW.Trod enc Try.prog W 0 (fun _ => true) true 28 v0 d0 p0)
    (hs : ∀ m ∈ d0.weights Try.prog 28, m ≤ reachBytes) : ∃ n v k s wk ev bu es, v0 = .agg #[.int .i64 n, v, .int .i64 k, .int .i64 s, .int .i64 wk, .int .i64 ev, .int .i64 bu] ∧ ((i64B n ∧ i64B k ∧ i64B s) ∧ i64B wk ∧ i64B ev ∧ i64B bu) ∧ EdR W v es ∧ (∀ x ∈ es, edB x) ∧ es.length * 24 ≤ 140737488351232 := by
  obtain ⟨cs, rfl, hcs⟩ := hv
  have hc1 : Try.prog.cellsOf 28 = 7 := by kernel_rfl
  have hc2 : Try.prog.cellsOf 26 = 4 := by kernel_rfl
  rw [hc1] at hcs
  obtain ⟨c0, c1, c2, c3, c4, c5, c6, rfl⟩ : ∃ c0 c1 c2 c3 c4 c5 c6, cs = #[c0, c1, c2, c3, c4, c5, c6] := by
    obtain ⟨l⟩ := cs
    match l, hcs with
    | [c0, c1, c2, c3, c4, c5, c6], _ => exact ⟨c0, c1, c2, c3, c4, c5, c6, rfl⟩
  obtain ⟨fuel, hf⟩ := h0
  obtain ⟨xs, n, _, hx, _, hxl, hfld⟩ := DataW.trod_struct Try.underlying28 hf
  have h1 := hfld 0 _ rfl
  have h2 := hfld 1 _ rfl
  have h3 := hfld 2 _ rfl
  have h4 := hfld 3 _ rfl
  match xs, hxl with
  | [y0, y1, y2, y3], _ =>
    have e1 : ((Value.agg #[c0, c1, c2, c3, c4, c5, c6]).cells.toList.drop 0).take (Try.prog.cellsOf 26) = [c0, c1, c2, c3] := by rw [hc2]; rfl
    have e2 : ((Value.agg #[c0, c1, c2, c3, c4, c5, c6]).cells.toList.drop 4).take (Try.prog.cellsOf 3) = [c4] := by rw [cells3]; rfl
    have e3 : ((Value.agg #[c0, c1, c2, c3, c4, c5, c6]).cells.toList.drop 5).take (Try.prog.cellsOf 3) = [c5] := by rw [cells3]; rfl
    have e4 : ((Value.agg #[c0, c1, c2, c3, c4, c5, c6]).cells.toList.drop 6).take (Try.prog.cellsOf 3) = [c6] := by rw [cells3]; rfl
    simp only [List.getElem?_cons_zero, List.getElem?_cons_succ] at h1 h2 h3 h4
    have h1' : DataW.trod enc Try.prog W 0 (fun _ => true) true n 26 [c0, c1, c2, c3] = some y0 := by rw [← e1]; exact h1
    have h2' : DataW.trod enc Try.prog W 0 (fun _ => true) true n 3 [c4] = some y1 := by rw [← e2]; exact h2
    have h3' : DataW.trod enc Try.prog W 0 (fun _ => true) true n 3 [c5] = some y2 := by rw [← e3]; exact h3
    have h4' : DataW.trod enc Try.prog W 0 (fun _ => true) true n 3 [c6] = some y3 := by rw [← e4]; exact h4
    obtain ⟨i4, ei4, _, hi4⟩ := DataW.trod_int Try.underlying3 h2'
    obtain ⟨i5, ei5, _, hi5⟩ := DataW.trod_int Try.underlying3 h3'
    obtain ⟨i6, ei6, _, hi6⟩ := DataW.trod_int Try.underlying3 h4'
    simp only [List.cons.injEq, and_true] at ei4 ei5 ei6
    subst ei4 ei5 ei6
    simp only [Prod.mk.injEq] at hx
    obtain ⟨rfl, _⟩ := hx
    have hs2 : ∀ m ∈ y0.1.weights Try.prog 26, m ≤ reachBytes := fun m hm => hs m (by
      simp only [DataW.weights, Try.underlying28, List.map_cons, List.map_nil, DataW.weightsEach, List.mem_append]
      simp [hm])
    obtain ⟨a, b, k, s, es, eab, hN, hR, hB, hL⟩ := open_job (v0 := .agg #[c0, c1, c2, c3]) (d0 := y0.1) (p0 := y0.2) ⟨_, rfl, by rw [hc2]; rfl⟩ ⟨n, h1'⟩ hs2
    injection eab with eab
    injection eab with eab
    simp only [List.cons.injEq, and_true] at eab
    obtain ⟨rfl, rfl, rfl, rfl⟩ := eab
    exact ⟨a, _, k, s, _, _, _, es, rfl, ⟨hN, bounds_i64 hi4, bounds_i64 hi5, bounds_i64 hi6⟩, hR, hB, hL⟩
end Go.Proofs.Ytinijeejfnehmaa
