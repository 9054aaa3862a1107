/-
  A board and a report that came in: what their data say of memory.
-/
import Derived.Test.YtpikfiegmnmbmaaBoardMem
import Derived.Test.YtpikfiegmnmbmaaTwoOpen
namespace Go.Proofs.Ytpikfiegmnmbmaa
set_option maxRecDepth 100000
open Go.ChangeShapes Go.WideShapes Go.ChangeAt Go.RowKit

theorem weights_allR {H : Type} {P : Program} {e : TypeId} : ∀ {ds : List (DataW H)} {d : DataW H}, d ∈ ds → ∀ n ∈ d.weights P e, n ∈ DataW.weightsAll P e ds
  | d0 :: ds, d, hd, n, hn => by
    simp only [DataW.weightsAll, List.mem_append]
    rcases List.mem_cons.1 hd with rfl | hd
    · exact .inl hn
    · exact .inr (weights_allR hd n hn)
/-- How great a report's parts may be. -/
def RpB (r : RpL) : Prop := r.sent.length * 8 ≤ 140737488351232 ∧ r.got.length * 8 ≤ 140737488351232
def BdB (b : BdL) : Prop := b.reps.length * 88 ≤ 140737488351232 ∧ ∀ r ∈ b.reps, RpB r
theorem open_intsG {H : Type} {enc : TypeId × Value → H} {W : World} {fuel : Nat} {v0 : Value} {y : DataW H × List MemPlace} (hf : DataW.trod enc Try.prog W 0 (fun _ => true) true fuel 30 [v0] = some y)
    (hs : ∀ m ∈ y.1.weights Try.prog 30, m ≤ reachBytes) : ∃ xs, InR W v0 xs ∧ xs.length * 8 ≤ 140737488351232 := by
  have b3 : Try.prog.bytesOf 3 = 8 := by kernel_rfl
  rcases open_ints Try.underlying30 Try.underlying3 cells3M hf with ⟨e1, _⟩ | ⟨x, len, cap, zs, e1, _, hle, hm, hz, hx, hcell, hwf⟩
  · simp only [List.cons.injEq, and_true] at e1
    subst e1
    exact ⟨[], RowK.nil _ _ _, by simp⟩
  · simp only [List.cons.injEq, and_true] at e1
    subst e1
    have hz2 : zs.length = cap := by simpa using hz
    have el : (zs.take len).length = len := List.length_take_of_le (by omega)
    have hw : ((zs.take len).length + (zs.drop len).length) * Try.prog.bytesOf 3 ≤ reachBytes := by
      refine hs _ ?_
      rw [hx]
      simp [DataW.weights, Try.underlying30, lits]
    rw [b3] at hw
    simp only [List.length_take, List.length_drop, reachBytes] at hw
    refine ⟨zs.take len, ⟨some x, cap, by rw [el], by rw [el]; omega, hm, fun e => (by cases e), fun hn => ?_⟩, by rw [el]; omega⟩
    rw [el] at hn
    have h0 := hcell 0 (by omega)
    obtain ⟨b, off, spot⟩ := x
    have hsp : spot = none := by simpa [Addr.add] using World.cell?_spot h0
    subst hsp
    refine ⟨b, off, rfl, World.block_lt_of_cell? W _ h0, fun i y hy j u hu => ?_⟩
    have hi : i < len := by have := (List.getElem?_eq_some_iff.1 hy).1; rw [el] at this; exact this
    have hc := hcell i (by omega)
    rw [addr_plus] at hc
    cases j with
    | zero =>
      simp [encI] at hu
      subst hu
      rw [Nat.mul_one, Nat.add_zero, hc, List.getD_eq_getElem?_getD]
      rw [List.getElem?_take_of_lt hi] at hy
      rw [hy]; rfl
    | succ j => simp [encI] at hu

set_option maxHeartbeats 1000000 in
/-- One report out of its cells. -/
theorem open_rep {H : Type} {enc : TypeId × Value → H} {W : World} {fuel : Nat} {cs : List Value} {y : DataW H × List MemPlace} (hcs : cs.length = 7) (hf : DataW.trod enc Try.prog W 0 (fun _ => true) true fuel 32 cs = some y)
    (hs : ∀ m ∈ y.1.weights Try.prog 32, m ≤ reachBytes) : ∃ (r : RpL) (vs vg : Value), cs = rpC r vs vg ∧ InR W vs r.sent ∧ InR W vg r.got ∧ RpB r := by
  have hc3 : Try.prog.cellsOf 3 = 1 := by kernel_rfl
  have hci : Try.prog.cellsOf 30 = 1 := by kernel_rfl
  obtain ⟨c0, c1, c2, c3, c4, c5, c6, rfl⟩ : ∃ c0 c1 c2 c3 c4 c5 c6, cs = [c0, c1, c2, c3, c4, c5, c6] := by
    match cs, hcs with
    | [c0, c1, c2, c3, c4, c5, c6], _ => exact ⟨c0, c1, c2, c3, c4, c5, c6, rfl⟩
  obtain ⟨xs, n, _, hx, _, hxl, hfld⟩ := DataW.trod_struct Try.underlying32 hf
  have h0 := hfld 0 _ rfl
  have h1 := hfld 1 _ rfl
  have h2 := hfld 2 _ rfl
  have h3 := hfld 3 _ rfl
  have h4 := hfld 4 _ rfl
  have h5 := hfld 5 _ rfl
  have h6 := hfld 6 _ rfl
  match xs, hxl with
  | [y0, y1, y2, y3, y4, y5, y6], _ =>
    simp only [List.getElem?_cons_zero, List.getElem?_cons_succ] at h0 h1 h2 h3 h4 h5 h6
    have e0 : (([c0, c1, c2, c3, c4, c5, c6] : List Value).drop 0).take (Try.prog.cellsOf 3) = [c0] := by rw [hc3]; rfl
    have h0' : DataW.trod enc Try.prog W 0 (fun _ => true) true n 3 [c0] = some y0 := by rw [← e0]; exact h0
    have e1 : (([c0, c1, c2, c3, c4, c5, c6] : List Value).drop 1).take (Try.prog.cellsOf 3) = [c1] := by rw [hc3]; rfl
    have h1' : DataW.trod enc Try.prog W 0 (fun _ => true) true n 3 [c1] = some y1 := by rw [← e1]; exact h1
    have e2 : (([c0, c1, c2, c3, c4, c5, c6] : List Value).drop 2).take (Try.prog.cellsOf 3) = [c2] := by rw [hc3]; rfl
    have h2' : DataW.trod enc Try.prog W 0 (fun _ => true) true n 3 [c2] = some y2 := by rw [← e2]; exact h2
    have e3 : (([c0, c1, c2, c3, c4, c5, c6] : List Value).drop 3).take (Try.prog.cellsOf 30) = [c3] := by rw [hci]; rfl
    have h3' : DataW.trod enc Try.prog W 0 (fun _ => true) true n 30 [c3] = some y3 := by rw [← e3]; exact h3
    have e4 : (([c0, c1, c2, c3, c4, c5, c6] : List Value).drop 4).take (Try.prog.cellsOf 30) = [c4] := by rw [hci]; rfl
    have h4' : DataW.trod enc Try.prog W 0 (fun _ => true) true n 30 [c4] = some y4 := by rw [← e4]; exact h4
    have e5 : (([c0, c1, c2, c3, c4, c5, c6] : List Value).drop 5).take (Try.prog.cellsOf 3) = [c5] := by rw [hc3]; rfl
    have h5' : DataW.trod enc Try.prog W 0 (fun _ => true) true n 3 [c5] = some y5 := by rw [← e5]; exact h5
    have e6 : (([c0, c1, c2, c3, c4, c5, c6] : List Value).drop 6).take (Try.prog.cellsOf 3) = [c6] := by rw [hc3]; rfl
    have h6' : DataW.trod enc Try.prog W 0 (fun _ => true) true n 3 [c6] = some y6 := by rw [← e6]; exact h6
    obtain ⟨i0, ei0, _, hi0⟩ := DataW.trod_int Try.underlying3 h0'
    obtain ⟨i1, ei1, _, hi1⟩ := DataW.trod_int Try.underlying3 h1'
    obtain ⟨i2, ei2, _, hi2⟩ := DataW.trod_int Try.underlying3 h2'
    obtain ⟨i5, ei5, _, hi5⟩ := DataW.trod_int Try.underlying3 h5'
    obtain ⟨i6, ei6, _, hi6⟩ := DataW.trod_int Try.underlying3 h6'
    simp only [List.cons.injEq, and_true] at ei0 ei1 ei2 ei5 ei6
    subst ei0 ei1 ei2 ei5 ei6
    rw [hx] at hs
    have hs3 : ∀ m ∈ y3.1.weights Try.prog 30, m ≤ reachBytes := fun m hm => hs m (by
      simp only [DataW.weights, Try.underlying32, List.map_cons, List.map_nil, DataW.weightsEach, List.mem_append]
      simp [hm])
    have hs4 : ∀ m ∈ y4.1.weights Try.prog 30, m ≤ reachBytes := fun m hm => hs m (by
      simp only [DataW.weights, Try.underlying32, List.map_cons, List.map_nil, DataW.weightsEach, List.mem_append]
      simp [hm])
    obtain ⟨us, hR, hL⟩ := open_intsG h3' hs3
    obtain ⟨gs, kR, kL⟩ := open_intsG h4' hs4
    exact ⟨⟨i0, i1, i2, us, gs, i5, i6⟩, c3, c4, rfl, hR, kR, hL, kL⟩

set_option maxHeartbeats 1000000 in
theorem open_reps {H : Type} {enc : TypeId × Value → H} {W : World} {fuel : Nat} {v0 : Value} {y : DataW H × List MemPlace} (hf : DataW.trod enc Try.prog W 0 (fun _ => true) true fuel 22 [v0] = some y) (hs : ∀ m ∈ y.1.weights Try.prog 22, m ≤ reachBytes) :
    ∃ rs, RpsR W v0 rs ∧ (∀ r ∈ rs, RpB r) ∧ rs.length * 88 ≤ 140737488351232 := by
  rcases Go.Deep.open_slice Try.underlying22 hf with ⟨e1, _⟩ | ⟨a, len, cap, m, n', D, Pl, e1, _, hl, hm, hmm, rfl, hel⟩
  · simp only [List.cons.injEq, and_true] at e1
    rw [e1]
    exact ⟨[], RpsR.nil _, by simp, by simp⟩
  · simp only [List.cons.injEq, and_true] at e1
    rw [e1]
    simp only [if_true] at hmm
    subst hmm
    have hc1 : Try.prog.cellsOf 32 = 7 := by kernel_rfl
    have hby : Try.prog.bytesOf 32 = 88 := by kernel_rfl
    have hw : (((List.range len).map D).length + ((List.range (m - len)).map fun j => D (len + j)).length) * Try.prog.bytesOf 32 ≤ reachBytes := by
      refine hs _ ?_
      simp [DataW.weights, Try.underlying22]
    rw [hby] at hw
    simp only [List.length_map, List.length_range, reachBytes] at hw
    rw [hc1] at hel
    have each : ∀ i, i < len → ∃ g : RpG, (∀ j u, (encR g)[j]? = some u → W.cell? ⟨a.block, a.off + i * 7 + j, none⟩ = some u) ∧ a.spot = none ∧ a.block < W.heap.size ∧ (InR W g.vs g.r.sent ∧ InR W g.vg g.r.got) ∧ RpB g.r := by
      intro i hi
      obtain ⟨cs', hc, ht⟩ := hel i (by omega)
      have hs3 : ∀ q ∈ (D i).weights Try.prog 32, q ≤ reachBytes := fun q hq => hs q (by
        simp only [DataW.weights, Try.underlying22, List.mem_cons, List.mem_append]
        exact .inr (.inl (weights_allR (List.mem_map.2 ⟨i, by simpa using hi, rfl⟩) q hq)))
      obtain ⟨_, hcl, hcell⟩ := World.cells?_some hc
      obtain ⟨r, vs, vg, rfl, h1, h2, h3⟩ := open_rep (by omega) ht hs3
      obtain ⟨sa, sc, rfl⟩ := h1.shape
      obtain ⟨ga, gc, rfl⟩ := h2.shape
      have hsp : a.spot = none := by
        obtain ⟨cs0, hc0, ht0⟩ := hel 0 (by omega)
        obtain ⟨_, hl0, hcell0⟩ := World.cells?_some hc0
        have q0 := hcell0 0 (by omega)
        have e0 : (a.add (0 * 7)).add 0 = a := by simp [Addr.add]
        rw [e0] at q0
        rw [List.getElem?_eq_getElem (by omega)] at q0
        exact World.cell?_spot q0
      obtain ⟨ab, ao, asp⟩ := a
      simp only at hsp
      subst hsp
      have hall : ∀ j u, (encR ⟨r, sa, sc, ga, gc⟩)[j]? = some u → W.cell? ⟨ab, ao + i * 7 + j, none⟩ = some u := fun j u hu => by
        have hj : j < 7 := by have := (List.getElem?_eq_some_iff.1 hu).1; rwa [encR_len] at this
        have k0 := hcell j (by omega)
        rw [addr_addrM, addr_plus] at k0
        rw [Nat.add_assoc, k0]
        exact hu
      exact ⟨⟨r, sa, sc, ga, gc⟩, hall, rfl, World.block_lt_of_cell? W ⟨ab, ao + i * 7 + 0, none⟩ (hall 0 _ rfl), ⟨h1, h2⟩, h3⟩
    obtain ⟨F, hF⟩ := @Go.Deep.choose_lt RpG ⟨⟨⟨0, 0, 0, [], [], 0, 0⟩, none, 0, none, 0⟩⟩ len _ each
    have hfl : ((List.range len).map F).length = len := by simp
    refine ⟨((List.range len).map F).map RpG.r, ⟨(List.range len).map F, rfl, ⟨some a, m, by rw [hfl], by rw [hfl]; exact hl, hm, fun e => (by cases e), fun hn => ?_⟩, fun g hg => ?_⟩, fun r hr => ?_, by rw [List.length_map, hfl]; omega⟩
    · rw [hfl] at hn
      obtain ⟨_, hsp, hlt, _⟩ := hF 0 hn
      refine ⟨a.block, a.off, by obtain ⟨ab, ao, asp⟩ := a; simp only at hsp; subst hsp; rfl, hlt, fun i x hx => ?_⟩
      rw [List.getElem?_map] at hx
      rcases Nat.lt_or_ge i len with h' | h'
      · rw [List.getElem?_range h'] at hx
        simp at hx
        subst hx
        exact (hF i h').1
      · rw [List.getElem?_eq_none (by simpa using h')] at hx; cases hx
    · obtain ⟨i, hi, rfl⟩ := List.mem_map.1 hg
      exact (hF i (by simpa using hi)).2.2.2.1
    · rw [List.map_map] at hr
      obtain ⟨i, hi, rfl⟩ := List.mem_map.1 hr
      exact (hF i (by simpa using hi)).2.2.2.2

set_option maxHeartbeats 1000000 in
theorem open_board {H : Type} {enc : TypeId × Value → H} {W : World} {v0 : Value} {d0 : DataW H} {p0 : List MemPlace} (hv : ∃ cs, v0 = .agg cs ∧ cs.size = Try.prog.cellsOf 24) (h0 : DataW.Trod enc Try.prog W 0 (fun _ => true) true 24 v0 d0 p0)
    (hs : ∀ m ∈ d0.weights Try.prog 24, m ≤ reachBytes) : ∃ (b : BdL) (vr : Value), v0 = .agg #[.int .i64 b.workers, .int .i64 b.epoch, .int .i64 b.step, vr] ∧ RpsR W vr b.reps ∧ BdB b := by
  obtain ⟨cs, rfl, hcs⟩ := hv
  have hc1 : Try.prog.cellsOf 24 = 4 := by kernel_rfl
  have hc3 : Try.prog.cellsOf 3 = 1 := by kernel_rfl
  have hci : Try.prog.cellsOf 22 = 1 := by kernel_rfl
  rw [hc1] at hcs
  obtain ⟨c0, c1, c2, c3, rfl⟩ : ∃ c0 c1 c2 c3, cs = #[c0, c1, c2, c3] := by
    obtain ⟨l⟩ := cs
    match l, hcs with
    | [c0, c1, c2, c3], _ => exact ⟨c0, c1, c2, c3, rfl⟩
  obtain ⟨fuel, hf⟩ := h0
  obtain ⟨xs, n, _, hx, _, hxl, hfld⟩ := DataW.trod_struct Try.underlying24 hf
  have h0 := hfld 0 _ rfl
  have h1 := hfld 1 _ rfl
  have h2 := hfld 2 _ rfl
  have h3 := hfld 3 _ rfl
  match xs, hxl with
  | [y0, y1, y2, y3], _ =>
    simp only [List.getElem?_cons_zero, List.getElem?_cons_succ] at h0 h1 h2 h3
    have e0 : ((Value.agg #[c0, c1, c2, c3]).cells.toList.drop 0).take (Try.prog.cellsOf 3) = [c0] := by rw [hc3]; rfl
    have h0' : DataW.trod enc Try.prog W 0 (fun _ => true) true n 3 [c0] = some y0 := by rw [← e0]; exact h0
    have e1 : ((Value.agg #[c0, c1, c2, c3]).cells.toList.drop 1).take (Try.prog.cellsOf 3) = [c1] := by rw [hc3]; rfl
    have h1' : DataW.trod enc Try.prog W 0 (fun _ => true) true n 3 [c1] = some y1 := by rw [← e1]; exact h1
    have e2 : ((Value.agg #[c0, c1, c2, c3]).cells.toList.drop 2).take (Try.prog.cellsOf 3) = [c2] := by rw [hc3]; rfl
    have h2' : DataW.trod enc Try.prog W 0 (fun _ => true) true n 3 [c2] = some y2 := by rw [← e2]; exact h2
    have e3 : ((Value.agg #[c0, c1, c2, c3]).cells.toList.drop 3).take (Try.prog.cellsOf 22) = [c3] := by rw [hci]; rfl
    have h3' : DataW.trod enc Try.prog W 0 (fun _ => true) true n 22 [c3] = some y3 := by rw [← e3]; exact h3
    obtain ⟨i0, ei0, _, hi0⟩ := DataW.trod_int Try.underlying3 h0'
    obtain ⟨i1, ei1, _, hi1⟩ := DataW.trod_int Try.underlying3 h1'
    obtain ⟨i2, ei2, _, hi2⟩ := DataW.trod_int Try.underlying3 h2'
    simp only [List.cons.injEq, and_true] at ei0 ei1 ei2
    subst ei0 ei1 ei2
    simp only [Prod.mk.injEq] at hx
    obtain ⟨rfl, _⟩ := hx
    have hs3 : ∀ m ∈ y3.1.weights Try.prog 22, m ≤ reachBytes := fun m hm => hs m (by
      simp only [DataW.weights, Try.underlying24, List.map_cons, List.map_nil, DataW.weightsEach, List.mem_append]
      simp [hm])
    obtain ⟨rs, hR, hB, hL⟩ := open_reps h3' hs3
    exact ⟨⟨i0, i1, i2, rs⟩, c3, rfl, hR, hL, hB⟩

theorem open_report {H : Type} {enc : TypeId × Value → H} {W : World} {v0 : Value} {d0 : DataW H} {p0 : List MemPlace} (hv : ∃ cs, v0 = .agg cs ∧ cs.size = Try.prog.cellsOf 32) (h0 : DataW.Trod enc Try.prog W 0 (fun _ => true) true 32 v0 d0 p0)
    (hs : ∀ m ∈ d0.weights Try.prog 32, m ≤ reachBytes) : ∃ (r : RpL) (vs vg : Value), v0 = .agg #[.int .i64 r.worker, .int .i64 r.epoch, .int .i64 r.step, vs, vg, .int .i64 r.waking, .int .i64 r.opn] ∧ InR W vs r.sent ∧ InR W vg r.got ∧ RpB r := by
  obtain ⟨cs, rfl, hcs⟩ := hv
  have hc1 : Try.prog.cellsOf 32 = 7 := by kernel_rfl
  rw [hc1] at hcs
  obtain ⟨fuel, hf⟩ := h0
  have hf' : DataW.trod enc Try.prog W 0 (fun _ => true) true fuel 32 cs.toList = some (d0, p0) := hf
  obtain ⟨r, vs, vg, e, h1, h2, h3⟩ := open_rep (by simpa using hcs) hf' hs
  refine ⟨r, vs, vg, ?_, h1, h2, h3⟩
  obtain ⟨l⟩ := cs
  simp only at e
  subst e
  rfl
end Go.Proofs.Ytpikfiegmnmbmaa
