/-
  Jobs and states that came in: what their data say of memory.
-/
import Derived.Test.YtinijeejfnehmaaGraphOpen
import Derived.Test.YtinijeejfnehmaaTwoOpen
import Derived.Test.YtinijeejfnehmaaStaMem
namespace Go.Proofs.Ytinijeejfnehmaa
set_option maxRecDepth 100000
open Go.ChangeShapes Go.WideShapes Go.ChangeAt Go.RowKit

theorem open_intsF {H : Type} {enc : TypeId × Value → H} {W : World} {fuel : Nat} {v0 : Value} {y : DataW H × List MemPlace} (hf : DataW.trod enc Try.prog W 0 (fun _ => true) true fuel 57 [v0] = some y)
    (hs : ∀ m ∈ y.1.weights Try.prog 57, m ≤ reachBytes) : ∃ xs, InR W v0 xs ∧ (∀ x ∈ xs, i64B x) ∧ xs.length * 8 ≤ 140737488351232 := by
  have b3 : Try.prog.bytesOf 3 = 8 := by kernel_rfl
  rcases open_ints Try.underlying57 Try.underlying3 cells3M hf with ⟨e1, _⟩ | ⟨x, l, c, zs, e1, _, hle, hm, hz, hx, hcell, hwf⟩
  · simp only [List.cons.injEq, and_true] at e1
    subst e1
    exact ⟨[], RowK.nil _ _ _, by simp, by simp⟩
  · simp only [List.cons.injEq, and_true] at e1
    subst e1
    have hz2 : zs.length = c := by simpa using hz
    have el : (zs.take l).length = l := List.length_take_of_le (by omega)
    have hw : ((zs.take l).length + (zs.drop l).length) * Try.prog.bytesOf 3 ≤ reachBytes := by
      refine hs _ ?_
      rw [hx]
      simp [DataW.weights, Try.underlying57, lits]
    rw [b3] at hw
    simp only [List.length_take, List.length_drop, reachBytes] at hw
    refine ⟨zs.take l, ⟨some x, c, by rw [el], by rw [el]; omega, hm, fun e => (by cases e), fun hn => ?_⟩, fun y hy => bounds_i64 (hwf y (List.mem_of_mem_take hy)), by rw [el]; omega⟩
    rw [el] at hn
    have h0 := hcell 0 (by omega)
    obtain ⟨b, off, spot⟩ := x
    have hsp : spot = none := by simpa [Addr.add] using World.cell?_spot h0
    subst hsp
    refine ⟨b, off, rfl, World.block_lt_of_cell? W _ h0, fun i y hy j u hu => ?_⟩
    have hi : i < l := by have := (List.getElem?_eq_some_iff.1 hy).1; rw [el] at this; exact this
    have hc := hcell i (by omega)
    rw [addr_plus] at hc
    cases j with
    | zero =>
      simp [encI] at hu
      subst hu
      rw [Nat.mul_one, Nat.add_zero, hc, List.getD_eq_getElem?_getD]
      rw [List.getElem?_take_of_lt hi] at hy
      rw [hy]
      rfl
    | succ j => simp [encI] at hu



theorem weights_allI {H : Type} {P : Program} {e : TypeId} : ∀ {ds : List (DataW H)} {d : DataW H}, d ∈ ds → ∀ n ∈ d.weights P e, n ∈ DataW.weightsAll P e ds
  | d0 :: ds, d, hd, n, hn => by
    simp only [DataW.weightsAll, List.mem_append]
    rcases List.mem_cons.1 hd with rfl | hd
    · exact .inl hn
    · exact .inr (weights_allI hd n hn)

set_option maxHeartbeats 400000 in
/-- Lists of slices of numbers. -/
theorem open_listsI {H : Type} {enc : TypeId × Value → H} {W : World} {fuel : Nat} {v0 : Value} {y : DataW H × List MemPlace} (hf : DataW.trod enc Try.prog W 0 (fun _ => true) true fuel 40 [v0] = some y) (hs : ∀ m ∈ y.1.weights Try.prog 40, m ≤ reachBytes) :
    ∃ f, LiR W v0 f ∧ (∀ l ∈ f, (∀ x ∈ l, i64B x) ∧ l.length * 8 ≤ 140737488351232) ∧ f.length * 24 ≤ 140737488351232 := by
  rcases Go.Deep.open_slice Try.underlying40 hf with ⟨e1, _⟩ | ⟨a, len, cap, m, n', D, Pl, e1, _, hl, hm, hmm, rfl, hel⟩
  · simp only [List.cons.injEq, and_true] at e1
    rw [e1]
    exact ⟨[], LiR.nil _, by simp, by simp⟩
  · simp only [List.cons.injEq, and_true] at e1
    rw [e1]
    simp only [if_true] at hmm
    subst hmm
    have hc1 : Try.prog.cellsOf 57 = 1 := by kernel_rfl
    have hby : Try.prog.bytesOf 57 = 24 := by kernel_rfl
    have hw : (((List.range len).map D).length + ((List.range (m - len)).map fun j => D (len + j)).length) * Try.prog.bytesOf 57 ≤ reachBytes := by
      refine hs _ ?_
      simp [DataW.weights, Try.underlying40]
    rw [hby] at hw
    simp only [List.length_map, List.length_range, reachBytes] at hw
    rw [hc1] at hel
    have each : ∀ i, i < len → ∃ y : List Int, (∃ u, W.cell? ⟨a.block, a.off + i, none⟩ = some u ∧ InR W u y) ∧ a.spot = none ∧ a.block < W.heap.size ∧ (∀ x ∈ y, i64B x) ∧ y.length * 8 ≤ 140737488351232 := by
      intro i hi
      obtain ⟨cs', hc, ht⟩ := hel i (by omega)
      have hs3 : ∀ q ∈ (D i).weights Try.prog 57, q ≤ reachBytes := fun q hq => hs q (by
        simp only [DataW.weights, Try.underlying40, List.mem_cons, List.mem_append]
        exact .inr (.inl (weights_allI (List.mem_map.2 ⟨i, by simpa using hi, rfl⟩) q hq)))
      obtain ⟨_, hcl, hcell⟩ := World.cells?_some hc
      obtain ⟨u, rfl⟩ : ∃ u, cs' = [u] := by
        match cs', hcl with
        | [u], _ => exact ⟨u, rfl⟩
      obtain ⟨es, hR, hB, hL⟩ := open_intsF ht hs3
      have k0 := hcell 0 (by omega)
      rw [addr_addrM] at k0
      simp only [List.getElem?_cons_zero] at k0
      have hsp : a.spot = none := by
        obtain ⟨cs0, hc0, ht0⟩ := hel 0 (by omega)
        obtain ⟨_, hl0, hcell0⟩ := World.cells?_some hc0
        have q0 := hcell0 0 (by omega)
        have e0 : (a.add (0 * 1)).add 0 = a := by simp [Addr.add]
        rw [e0] at q0
        rw [List.getElem?_eq_getElem (by omega)] at q0
        exact World.cell?_spot q0
      obtain ⟨ab, ao, asp⟩ := a
      simp only at hsp
      subst hsp
      rw [addr_plus] at k0
      simp only [Nat.mul_one, Nat.add_zero] at k0
      exact ⟨es, ⟨u, k0, hR⟩, rfl, World.block_lt_of_cell? W ⟨ab, ao + i, none⟩ k0, hB, hL⟩
    obtain ⟨F, hF⟩ := @Go.Deep.choose_lt (List Int) ⟨[]⟩ len _ each
    have hfl : ((List.range len).map F).length = len := by simp
    refine ⟨(List.range len).map F, ⟨some a, m, by rw [hfl], by rw [hfl]; exact hl, hm, fun hn => ?_⟩, fun l hl2 => ?_, by rw [hfl]; omega⟩
    · rw [hfl] at hn
      obtain ⟨_, hsp, hlt, _⟩ := hF 0 hn
      refine ⟨a.block, a.off, by obtain ⟨ab, ao, asp⟩ := a; simp only at hsp; subst hsp; rfl, hlt, fun i x hx => ?_⟩
      rw [List.getElem?_map] at hx
      rcases Nat.lt_or_ge i len with h' | h'
      · rw [List.getElem?_range h'] at hx
        simp at hx
        subst hx
        exact (hF i h').1
      · rw [List.getElem?_eq_none (by simpa using h')] at hx; cases hx
    · obtain ⟨i, hi, rfl⟩ := List.mem_map.1 hl2
      exact (hF i (by simpa using hi)).2.2.2


set_option maxHeartbeats 400000 in
theorem open_job {H : Type} {enc : TypeId × Value → H} {W : World} {v0 : Value} {d0 : DataW H} {p0 : List MemPlace} (hv : ∃ cs, v0 = .agg cs ∧ cs.size = Try.prog.cellsOf 26) (h0 : DataW.Trod enc Try.prog W 0 (fun _ => true) true 26 v0 d0 p0)
    (hs : ∀ m ∈ d0.weights Try.prog 26, m ≤ reachBytes) : ∃ n v k s es, v0 = .agg #[.int .i64 n, v, .int .i64 k, .int .i64 s] ∧ (i64B n ∧ i64B k ∧ i64B s) ∧ EdR W v es ∧ (∀ x ∈ es, edB x) ∧ es.length * 24 ≤ 140737488351232 := by
  obtain ⟨cs, rfl, hcs⟩ := hv
  have hc1 : Try.prog.cellsOf 26 = 4 := by kernel_rfl
  have hc2 : Try.prog.cellsOf 24 = 2 := by kernel_rfl
  rw [hc1] at hcs
  obtain ⟨u, v, x, y, rfl⟩ : ∃ u v x y, cs = #[u, v, x, y] := by
    obtain ⟨l⟩ := cs
    match l, hcs with
    | [u, v, x, y], _ => exact ⟨u, v, x, y, rfl⟩
  obtain ⟨fuel, hf⟩ := h0
  obtain ⟨xs, n, _, hx, _, hxl, hfld⟩ := DataW.trod_struct Try.underlying26 hf
  have h1 := hfld 0 _ rfl
  have h2 := hfld 1 _ rfl
  have h3 := hfld 2 _ rfl
  match xs, hxl with
  | [y0, y1, y2], _ =>
    have e1 : ((Value.agg #[u, v, x, y]).cells.toList.drop 0).take (Try.prog.cellsOf 24) = [u, v] := by rw [hc2]; rfl
    have e2 : ((Value.agg #[u, v, x, y]).cells.toList.drop 2).take (Try.prog.cellsOf 3) = [x] := by rw [cells3]; rfl
    have e3 : ((Value.agg #[u, v, x, y]).cells.toList.drop 3).take (Try.prog.cellsOf 3) = [y] := by rw [cells3]; rfl
    simp only [List.getElem?_cons_zero, List.getElem?_cons_succ] at h1 h2 h3
    have h1' : DataW.trod enc Try.prog W 0 (fun _ => true) true n 24 [u, v] = some y0 := by rw [← e1]; exact h1
    have h2' : DataW.trod enc Try.prog W 0 (fun _ => true) true n 3 [x] = some y1 := by rw [← e2]; exact h2
    have h3' : DataW.trod enc Try.prog W 0 (fun _ => true) true n 3 [y] = some y2 := by rw [← e3]; exact h3
    obtain ⟨i, ei, _, hi⟩ := DataW.trod_int Try.underlying3 h2'
    simp only [List.cons.injEq, and_true] at ei
    subst ei
    obtain ⟨z, ez, _, hz⟩ := DataW.trod_int Try.underlying3 h3'
    simp only [List.cons.injEq, and_true] at ez
    subst ez
    simp only [Prod.mk.injEq] at hx
    obtain ⟨rfl, _⟩ := hx
    have hs2 : ∀ m ∈ y0.1.weights Try.prog 24, m ≤ reachBytes := fun m hm => hs m (by
      simp only [DataW.weights, Try.underlying26, List.map_cons, List.map_nil, DataW.weightsEach, List.mem_append]
      simp [hm])
    obtain ⟨a, b, es, eab, hN, hR, hB, hL⟩ := open_graph (v0 := .agg #[u, v]) (d0 := y0.1) (p0 := y0.2) ⟨_, rfl, by rw [hc2]; rfl⟩ ⟨n, h1'⟩ hs2
    injection eab with eab
    injection eab with eab
    simp only [List.cons.injEq, and_true] at eab
    obtain ⟨rfl, rfl⟩ := eab
    exact ⟨a, v, i, z, es, rfl, ⟨hN, bounds_i64 hi, bounds_i64 hz⟩, hR, hB, hL⟩

/-- How great a state's parts may be. -/
def StaB (T : StS) : Prop := ((∀ x ∈ T.vals, mlB x) ∧ T.vals.length * 16 ≤ 140737488351232) ∧ (∀ l ∈ T.mail, (∀ x ∈ l, i64B x) ∧ l.length * 8 ≤ 140737488351232) ∧ T.mail.length * 24 ≤ 140737488351232
set_option maxHeartbeats 400000 in
theorem open_state {H : Type} {enc : TypeId × Value → H} {W : World} {v0 : Value} {d0 : DataW H} {p0 : List MemPlace} (hv : ∃ cs, v0 = .agg cs ∧ cs.size = Try.prog.cellsOf 42) (h0 : DataW.Trod enc Try.prog W 0 (fun _ => true) true 42 v0 d0 p0)
    (hs : ∀ m ∈ d0.weights Try.prog 42, m ≤ reachBytes) : ∃ (T : StS) (vv vm : Value), v0 = .agg #[.int .i64 T.step, .int .i64 T.phase, .bool T.fresh, .bool T.done, vv, vm] ∧ (i64B T.step ∧ i64B T.phase) ∧ MlR W vv T.vals ∧ LiR W vm T.mail ∧ StaB T := by
  obtain ⟨cs, rfl, hcs⟩ := hv
  have hc1 : Try.prog.cellsOf 42 = 6 := by kernel_rfl
  have hc4 : Try.prog.cellsOf 4 = 1 := by kernel_rfl
  have hc5 : Try.prog.cellsOf 39 = 1 := by kernel_rfl
  have hc6 : Try.prog.cellsOf 40 = 1 := by kernel_rfl
  rw [hc1] at hcs
  obtain ⟨c0, c1, c2, c3, c4, c5, rfl⟩ : ∃ c0 c1 c2 c3 c4 c5, cs = #[c0, c1, c2, c3, c4, c5] := by
    obtain ⟨l⟩ := cs
    match l, hcs with
    | [c0, c1, c2, c3, c4, c5], _ => exact ⟨c0, c1, c2, c3, c4, c5, rfl⟩
  obtain ⟨fuel, hf⟩ := h0
  obtain ⟨xs, n, _, hx, _, hxl, hfld⟩ := DataW.trod_struct Try.underlying42 hf
  have h0 := hfld 0 _ rfl
  have h1 := hfld 1 _ rfl
  have h2 := hfld 2 _ rfl
  have h3 := hfld 3 _ rfl
  have h4 := hfld 4 _ rfl
  have h5 := hfld 5 _ rfl
  match xs, hxl with
  | [y0, y1, y2, y3, y4, y5], _ =>
    have e0 : ((Value.agg #[c0, c1, c2, c3, c4, c5]).cells.toList.drop 0).take (Try.prog.cellsOf 3) = [c0] := by rw [cells3]; rfl
    have e1 : ((Value.agg #[c0, c1, c2, c3, c4, c5]).cells.toList.drop 1).take (Try.prog.cellsOf 3) = [c1] := by rw [cells3]; rfl
    have e2 : ((Value.agg #[c0, c1, c2, c3, c4, c5]).cells.toList.drop 2).take (Try.prog.cellsOf 4) = [c2] := by rw [hc4]; rfl
    have e3 : ((Value.agg #[c0, c1, c2, c3, c4, c5]).cells.toList.drop 3).take (Try.prog.cellsOf 4) = [c3] := by rw [hc4]; rfl
    have e4 : ((Value.agg #[c0, c1, c2, c3, c4, c5]).cells.toList.drop 4).take (Try.prog.cellsOf 39) = [c4] := by rw [hc5]; rfl
    have e5 : ((Value.agg #[c0, c1, c2, c3, c4, c5]).cells.toList.drop 5).take (Try.prog.cellsOf 40) = [c5] := by rw [hc6]; rfl
    simp only [List.getElem?_cons_zero, List.getElem?_cons_succ] at h0 h1 h2 h3 h4 h5
    have h0' : DataW.trod enc Try.prog W 0 (fun _ => true) true n 3 [c0] = some y0 := by rw [← e0]; exact h0
    have h1' : DataW.trod enc Try.prog W 0 (fun _ => true) true n 3 [c1] = some y1 := by rw [← e1]; exact h1
    have h2' : DataW.trod enc Try.prog W 0 (fun _ => true) true n 4 [c2] = some y2 := by rw [← e2]; exact h2
    have h3' : DataW.trod enc Try.prog W 0 (fun _ => true) true n 4 [c3] = some y3 := by rw [← e3]; exact h3
    have h4' : DataW.trod enc Try.prog W 0 (fun _ => true) true n 39 [c4] = some y4 := by rw [← e4]; exact h4
    have h5' : DataW.trod enc Try.prog W 0 (fun _ => true) true n 40 [c5] = some y5 := by rw [← e5]; exact h5
    obtain ⟨i0, ei0, _, hi0⟩ := DataW.trod_int Try.underlying3 h0'
    obtain ⟨i1, ei1, _, hi1⟩ := DataW.trod_int Try.underlying3 h1'
    obtain ⟨b2, eb2, _⟩ := DataW.trod_bool Try.underlying4 h2'
    obtain ⟨b3, eb3, _⟩ := DataW.trod_bool Try.underlying4 h3'
    simp only [List.cons.injEq, and_true] at ei0 ei1 eb2 eb3
    subst ei0 ei1 eb2 eb3
    simp only [Prod.mk.injEq] at hx
    obtain ⟨rfl, _⟩ := hx
    have hs4 : ∀ m ∈ y4.1.weights Try.prog 39, m ≤ reachBytes := fun m hm => hs m (by
      simp only [DataW.weights, Try.underlying42, List.map_cons, List.map_nil, DataW.weightsEach, List.mem_append]
      simp [hm])
    have hs5 : ∀ m ∈ y5.1.weights Try.prog 40, m ≤ reachBytes := fun m hm => hs m (by
      simp only [DataW.weights, Try.underlying42, List.map_cons, List.map_nil, DataW.weightsEach, List.mem_append]
      simp [hm])
    obtain ⟨vs, hR, hB, hL⟩ := open_twos Try.underlying39 Try.underlying53 (by kernel_rfl) rfl rfl rfl rfl (by kernel_rfl) h4' hs4
    obtain ⟨ms, kR, kB, kL⟩ := open_listsI h5' hs5
    exact ⟨⟨i0, i1, b2, b3, vs, ms⟩, c4, c5, rfl, ⟨bounds_i64 hi0, bounds_i64 hi1⟩, hR, kR, ⟨hB, hL⟩, kB, kL⟩
end Go.Proofs.Ytinijeejfnehmaa
