/-
  A queue that came in, and a piece of mail: what their data say of memory.
-/
import Derived.Test.YthakibcfmbkpkaaMailOpen
import Derived.Test.YthakibcfmbkpkaaByteRows
namespace Go.Proofs.Ythakibcfmbkpkaa
set_option maxRecDepth 100000
open Go.ChangeShapes Go.WideShapes Go.ChangeAt Go.RowKit

set_option maxHeartbeats 400000 in
/-- A slice of bytes. -/
theorem open_bytesF {H : Type} {enc : TypeId × Value → H} {W : World} {fuel : Nat} {v : Value} {y : DataW H × List MemPlace} (hf : DataW.trod enc Try.prog W 0 (fun _ => true) true fuel 22 [v] = some y) (hs : ∀ m ∈ y.1.weights Try.prog 22, m ≤ reachBytes) :
    ∃ xs, Reads .u8 W v xs ∧ (∀ x ∈ xs, 0 ≤ x ∧ x ≤ 255) ∧ xs.length ≤ 140737488351232 := by
  have hc5 : Try.prog.cellsOf 5 = 1 := by kernel_rfl
  have hb5 : Try.prog.bytesOf 5 = 1 := by kernel_rfl
  rcases open_ints Try.underlying22 Try.underlying5 hc5 hf with ⟨e1, rfl⟩ | ⟨a, len, cap, zs, e1, _, hle, hm, hz, rfl, hcell, hwf⟩
  · simp only [List.cons.injEq, and_true] at e1
    subst e1
    exact ⟨[], ⟨none, 0, rfl, by simp, by simp [maxLen], fun _ => rfl, fun x hx => by cases hx⟩, by simp, by simp⟩
  · simp only [List.cons.injEq, and_true] at e1
    subst e1
    have hz2 : zs.length = cap := by simpa using hz
    have el : (zs.take len).length = len := List.length_take_of_le (by omega)
    have hw : ((zs.take len).length + (zs.drop len).length) * Try.prog.bytesOf 5 ≤ reachBytes := by
      refine hs _ ?_
      simp [DataW.weights, Try.underlying22, lits]
    rw [hb5] at hw
    simp only [List.length_take, List.length_drop, reachBytes] at hw
    refine ⟨zs.take len, ⟨some a, cap, by rw [el], by rw [el]; omega, hm, fun e => (by cases e), fun x hx j hj => ?_⟩, bytes_wf (fun n hn => hwf n (List.mem_of_mem_take hn)), by rw [el]; omega⟩
    injection hx with hx
    subst hx
    rw [el] at hj
    rw [hcell j (by omega), List.getD_eq_getElem?_getD, List.getD_eq_getElem?_getD, List.getElem?_take_of_lt hj]

set_option maxHeartbeats 400000 in
/-- Lists of slices of bytes. -/
theorem open_rowsF {H : Type} {enc : TypeId × Value → H} {W : World} {fuel : Nat} {v0 : Value} {y : DataW H × List MemPlace} (hf : DataW.trod enc Try.prog W 0 (fun _ => true) true fuel 83 [v0] = some y) (hs : ∀ m ∈ y.1.weights Try.prog 83, m ≤ reachBytes) :
    ∃ f, BsR W v0 f ∧ (∀ l ∈ f, (∀ x ∈ l, 0 ≤ x ∧ x ≤ 255) ∧ l.length ≤ 140737488351232) ∧ f.length * 24 ≤ 140737488351232 := by
  rcases Go.Deep.open_slice Try.underlying83 hf with ⟨e1, _⟩ | ⟨a, len, cap, m, n', D, Pl, e1, _, hl, hm, hmm, rfl, hel⟩
  · simp only [List.cons.injEq, and_true] at e1
    rw [e1]
    exact ⟨[], BsR.nil _, by simp, by simp⟩
  · simp only [List.cons.injEq, and_true] at e1
    rw [e1]
    simp only [if_true] at hmm
    subst hmm
    have hc1 : Try.prog.cellsOf 22 = 1 := by kernel_rfl
    have hby : Try.prog.bytesOf 22 = 24 := by kernel_rfl
    have hw : (((List.range len).map D).length + ((List.range (m - len)).map fun j => D (len + j)).length) * Try.prog.bytesOf 22 ≤ reachBytes := by
      refine hs _ ?_
      simp [DataW.weights, Try.underlying83]
    rw [hby] at hw
    simp only [List.length_map, List.length_range, reachBytes] at hw
    rw [hc1] at hel
    have each : ∀ i, i < len → ∃ y : List Int, (∃ u, W.cell? ⟨a.block, a.off + i, none⟩ = some u ∧ Reads .u8 W u y) ∧ a.spot = none ∧ a.block < W.heap.size ∧ (∀ x ∈ y, 0 ≤ x ∧ x ≤ 255) ∧ y.length ≤ 140737488351232 := by
      intro i hi
      obtain ⟨cs', hc, ht⟩ := hel i (by omega)
      have hs3 : ∀ q ∈ (D i).weights Try.prog 22, q ≤ reachBytes := fun q hq => hs q (by
        simp only [DataW.weights, Try.underlying83, List.mem_cons, List.mem_append]
        exact .inr (.inl (weights_allM (List.mem_map.2 ⟨i, by simpa using hi, rfl⟩) q hq)))
      obtain ⟨_, hcl, hcell⟩ := World.cells?_some hc
      obtain ⟨u, rfl⟩ : ∃ u, cs' = [u] := by
        match cs', hcl with
        | [u], _ => exact ⟨u, rfl⟩
      obtain ⟨es, hR, hB, hL⟩ := open_bytesF ht hs3
      have k0 := hcell 0 (by omega)
      rw [addr_addrM] at k0
      simp only [List.getElem?_cons_zero] at k0
      have hsp : a.spot = none := by
        obtain ⟨cs0, hc0, ht0⟩ := hel 0 (by omega)
        obtain ⟨_, hl0, hcell0⟩ := World.cells?_some hc0
        have q0 := hcell0 0 (by omega)
        have e0 : (a.add (0 * 1)).add 0 = a := by simp [Addr.add]
        rw [e0] at q0
        rw [List.getElem?_eq_getElem (by omega)] at q0
        exact World.cell?_spot q0
      obtain ⟨ab, ao, asp⟩ := a
      simp only at hsp
      subst hsp
      rw [addr_plus] at k0
      simp only [Nat.mul_one, Nat.add_zero] at k0
      exact ⟨es, ⟨u, k0, hR⟩, rfl, World.block_lt_of_cell? W ⟨ab, ao + i, none⟩ k0, hB, hL⟩
    obtain ⟨F, hF⟩ := @Go.Deep.choose_lt (List Int) ⟨[]⟩ len _ each
    have hfl : ((List.range len).map F).length = len := by simp
    refine ⟨(List.range len).map F, ⟨some a, m, by rw [hfl], by rw [hfl]; exact hl, hm, fun hn => ?_⟩, fun l hl2 => ?_, by rw [hfl]; omega⟩
    · rw [hfl] at hn
      obtain ⟨_, hsp, hlt, _⟩ := hF 0 hn
      refine ⟨a.block, a.off, by obtain ⟨ab, ao, asp⟩ := a; simp only at hsp; subst hsp; rfl, hlt, fun i x hx => ?_⟩
      rw [List.getElem?_map] at hx
      rcases Nat.lt_or_ge i len with h' | h'
      · rw [List.getElem?_range h'] at hx
        simp at hx
        subst hx
        exact (hF i h').1
      · rw [List.getElem?_eq_none (by simpa using h')] at hx; cases hx
    · obtain ⟨i, hi, rfl⟩ := List.mem_map.1 hl2
      exact (hF i (by simpa using hi)).2.2.2

/-- A queue's loose mail and its runs. -/
def QuR (w : World) (vl vr : Value) (lo : List Ml) (rs : List (List Int)) : Prop := MlR w vl lo ∧ BsR w vr rs
theorem QuR.below {w w' : World} {vl vr : Value} {lo : List Ml} {rs : List (List Int)} {B : Nat} (h : QuR w vl vr lo rs) (hb : Below B w w') (hB : w.heap.size ≤ B) : QuR w' vl vr lo rs := ⟨h.1.below hb hB, h.2.below hb hB⟩
/-- How great they may be. -/
def QuB (lo : List Ml) (rs : List (List Int)) : Prop := ((∀ x ∈ lo, mlB x) ∧ lo.length * 16 ≤ 140737488351232) ∧ (∀ l ∈ rs, (∀ x ∈ l, 0 ≤ x ∧ x ≤ 255) ∧ l.length ≤ 140737488351232) ∧ rs.length * 24 ≤ 140737488351232

set_option maxHeartbeats 400000 in
theorem open_queue {H : Type} {enc : TypeId × Value → H} {W : World} {v0 : Value} {d0 : DataW H} {p0 : List MemPlace} (hv : ∃ cs, v0 = .agg cs ∧ cs.size = Try.prog.cellsOf 85) (h0 : DataW.Trod enc Try.prog W 0 (fun _ => true) true 85 v0 d0 p0)
    (hs : ∀ m ∈ d0.weights Try.prog 85, m ≤ reachBytes) : ∃ n vl vr lo rs, v0 = .agg #[.int .i64 n, vl, vr] ∧ i64B n ∧ QuR W vl vr lo rs ∧ QuB lo rs := by
  obtain ⟨cs, rfl, hcs⟩ := hv
  have hc1 : Try.prog.cellsOf 85 = 3 := by kernel_rfl
  have hc2 : Try.prog.cellsOf 25 = 1 := by kernel_rfl
  have hc3 : Try.prog.cellsOf 83 = 1 := by kernel_rfl
  rw [hc1] at hcs
  obtain ⟨u, v, x, rfl⟩ : ∃ u v x, cs = #[u, v, x] := by
    obtain ⟨l⟩ := cs
    match l, hcs with
    | [u, v, x], _ => exact ⟨u, v, x, rfl⟩
  obtain ⟨fuel, hf⟩ := h0
  obtain ⟨xs, n, _, hx, _, hxl, hfld⟩ := DataW.trod_struct Try.underlying85 hf
  have h1 := hfld 0 _ rfl
  have h2 := hfld 1 _ rfl
  have h3 := hfld 2 _ rfl
  match xs, hxl with
  | [y0, y1, y2], _ =>
    have e1 : ((Value.agg #[u, v, x]).cells.toList.drop 0).take (Try.prog.cellsOf 3) = [u] := by rw [cells3M]; rfl
    have e2 : ((Value.agg #[u, v, x]).cells.toList.drop 1).take (Try.prog.cellsOf 25) = [v] := by rw [hc2]; rfl
    have e3 : ((Value.agg #[u, v, x]).cells.toList.drop 2).take (Try.prog.cellsOf 83) = [x] := by rw [hc3]; rfl
    simp only [List.getElem?_cons_zero, List.getElem?_cons_succ] at h1 h2 h3
    have h1' : DataW.trod enc Try.prog W 0 (fun _ => true) true n 3 [u] = some y0 := by rw [← e1]; exact h1
    have h2' : DataW.trod enc Try.prog W 0 (fun _ => true) true n 25 [v] = some y1 := by rw [← e2]; exact h2
    have h3' : DataW.trod enc Try.prog W 0 (fun _ => true) true n 83 [x] = some y2 := by rw [← e3]; exact h3
    obtain ⟨i, e0, _, hi⟩ := DataW.trod_int Try.underlying3 h1'
    simp only [List.cons.injEq, and_true] at e0
    subst e0
    simp only [Prod.mk.injEq] at hx
    obtain ⟨rfl, _⟩ := hx
    have hs2 : ∀ m ∈ y1.1.weights Try.prog 25, m ≤ reachBytes := fun m hm => hs m (by
      simp only [DataW.weights, Try.underlying85, List.map_cons, List.map_nil, DataW.weightsEach, List.mem_append]
      simp [hm])
    have hs3 : ∀ m ∈ y2.1.weights Try.prog 83, m ≤ reachBytes := fun m hm => hs m (by
      simp only [DataW.weights, Try.underlying85, List.map_cons, List.map_nil, DataW.weightsEach, List.mem_append]
      simp [hm])
    obtain ⟨lo, hR, hB, hL⟩ := open_mailsF h2' hs2
    obtain ⟨rs, kR, kB, kL⟩ := open_rowsF h3' hs3
    exact ⟨i, v, x, lo, rs, rfl, bounds_i64 hi, ⟨hR, kR⟩, ⟨hB, hL⟩, kB, kL⟩

theorem open_mail {H : Type} {enc : TypeId × Value → H} {W : World} {v0 : Value} {d0 : DataW H} {p0 : List MemPlace} (hv : ∃ cs, v0 = .agg cs ∧ cs.size = Try.prog.cellsOf 45) (h0 : DataW.Trod enc Try.prog W 0 (fun _ => true) true 45 v0 d0 p0) :
    ∃ e : Ml, v0 = .agg #[.int .i64 e.1, .int .i64 e.2] ∧ mlB e := by
  obtain ⟨cs, rfl, hcs⟩ := hv
  obtain ⟨fuel, hf⟩ := h0
  obtain ⟨e, he, hb⟩ := open_two Try.underlying45 (by kernel_rfl) rfl rfl rfl rfl hf
  refine ⟨e, ?_, hb⟩
  obtain ⟨l⟩ := cs
  have : l = encM e := he
  rw [this]
  rfl
end Go.Proofs.Ythakibcfmbkpkaa
