/-
  A disk that came in: what its datum says of memory.
-/
import Derived.Test.YthakibcfmbkpkaaDoorDiskMem
import Derived.Test.YthakibcfmbkpkaaDoorBytesOpen
import Derived.Deep.Slices
import Derived.Deep.Strs
import Derived.SizedLaws
import Derived.ShutString
import Derived.ChangeOld
import Derived.Below
namespace Go.Proofs.YthakibcfmbkpkaaDoor
set_option maxRecDepth 100000
open Go.ChangeShapes Go.WideShapes Go.ChangeAt Go.RowKit

theorem weights_all {H : Type} {P : Program} {e : TypeId} : ∀ {ds : List (DataW H)} {d : DataW H}, d ∈ ds → ∀ n ∈ d.weights P e, n ∈ DataW.weightsAll P e ds
  | d0 :: ds, d, hd, n, hn => by
    simp only [DataW.weightsAll, List.mem_append]
    rcases List.mem_cons.1 hd with rfl | hd
    · exact .inl hn
    · exact .inr (weights_all hd n hn)

theorem addr_addr (a : Addr) (i j : Nat) : (a.add i).add j = a.add (i + j) := Go.Deep.add_add a i j
theorem bytes50 : Tryd.prog.bytesOf 46 = 48 := by kernel_rfl
theorem bytes5 : Tryd.prog.bytesOf 5 = 1 := by kernel_rfl
theorem cells50 : Tryd.prog.cellsOf 46 = 3 := by kernel_rfl
theorem cells22 : Tryd.prog.cellsOf 22 = 1 := by kernel_rfl
theorem cells25 : Tryd.prog.cellsOf 44 = 1 := by kernel_rfl
theorem cells5 : Tryd.prog.cellsOf 5 = 1 := by kernel_rfl
theorem cells9 : Tryd.prog.cellsOf 9 = 1 := by kernel_rfl
theorem cells3 : Tryd.prog.cellsOf 3 = 1 := by kernel_rfl

set_option maxHeartbeats 400000 in
/-- One file's cells, opened. -/
theorem open_file {H : Type} {enc : TypeId × Value → H} {w : World} {n : Nat} {cs : List Value} {x : DataW H × List MemPlace} (h : DataW.trod enc Tryd.prog w 0 (fun _ => true) true n 46 cs = some x) (hs : ∀ m ∈ x.1.weights Tryd.prog 46, m ≤ reachBytes) :
    ∃ (f : FileL) (v : Value), cs = [.string f.name, v, .int .i64 f.synced] ∧ Reads .u8 w v f.data ∧ (∀ x ∈ f.data, 0 ≤ x ∧ x ≤ 255) ∧ -9223372036854775808 ≤ f.synced ∧ f.synced ≤ 9223372036854775807 ∧ f.name.size ≤ maxLen ∧ f.data.length ≤ 140737488351232 := by
  obtain ⟨y0, y1, y2, m, rfl, hl, h0, h1, h2⟩ := Go.Deep.trod_struct3 Tryd.underlying46 h
  rw [cells50] at hl
  match cs, hl with
  | [c0, c1, c2], _ =>
    simp only [cells9, cells25, cells3, List.drop_zero, List.drop_succ_cons, List.take_succ_cons, List.take_zero] at h0 h1 h2
    obtain ⟨s, e0, rfl, hss⟩ := DataW.trod_string Tryd.underlying9 h0
    obtain ⟨i, e2, rfl, hi⟩ := DataW.trod_int Tryd.underlying3 h2
    simp only [List.cons.injEq, and_true] at e0 e2
    subst e0 e2
    have hb := bounds_i64 hi
    rcases open_ints Tryd.underlying44 Tryd.underlying5 cells5 h1 with ⟨e1, rfl⟩ | ⟨a, len, cap, zs, e1, _, hle, hm, hz, rfl, hcell, hwf⟩
    · simp only [List.cons.injEq, and_true] at e1
      subst e1
      exact ⟨⟨s, [], i⟩, _, rfl, ⟨none, 0, rfl, by simp, by simp [maxLen], fun _ => rfl, fun x hx => by cases hx⟩, by simp, hb.1, hb.2, hss, by simp⟩
    · simp only [List.cons.injEq, and_true] at e1
      subst e1
      have hz2 : zs.length = cap := by simpa using hz
      have el : (zs.take len).length = len := List.length_take_of_le (by omega)
      have hw : ((zs.take len).length + (zs.drop len).length) * Tryd.prog.bytesOf 5 ≤ reachBytes := by
        refine hs _ ?_
        simp [DataW.weights, DataW.weightsEach, Tryd.underlying46, Tryd.underlying44, lits]
      rw [bytes5] at hw
      simp only [List.length_take, List.length_drop, reachBytes] at hw
      refine ⟨⟨s, zs.take len, i⟩, _, rfl, ⟨some a, cap, by rw [el], by rw [el]; omega, hm, fun e => (by cases e), fun x hx j hj => ?_⟩, bytes_wf (fun n hn => hwf n (List.mem_of_mem_take hn)), hb.1, hb.2, hss, by rw [el]; omega⟩
      injection hx with hx
      subst hx
      rw [el] at hj
      rw [hcell j (by omega), List.getD_eq_getElem?_getD, List.getD_eq_getElem?_getD, List.getElem?_take_of_lt hj]

set_option maxHeartbeats 400000 in
theorem open_disk {H : Type} {enc : TypeId × Value → H} {W : World} {v0 : Value} {d0 : DataW H} {p0 : List MemPlace} (hv : ∃ cs, v0 = .agg cs ∧ cs.size = Tryd.prog.cellsOf 24) (h0 : DataW.Trod enc Tryd.prog W 0 (fun _ => true) true 24 v0 d0 p0)
    (hs : ∀ m ∈ d0.weights Tryd.prog 24, m ≤ reachBytes) : ∃ v fs, v0 = .agg #[v] ∧ DiskR W v fs ∧ Good fs ∧ fs.length * 48 ≤ 140737488351232 := by
  obtain ⟨cs, rfl, hcs⟩ := hv
  have hc1 : Tryd.prog.cellsOf 24 = 1 := by kernel_rfl
  rw [hc1] at hcs
  obtain ⟨v, rfl⟩ : ∃ v, cs = #[v] := by
    obtain ⟨l⟩ := cs
    match l, hcs with
    | [v], _ => exact ⟨v, rfl⟩
  obtain ⟨fuel, hf⟩ := h0
  obtain ⟨xs, n, _, hx, _, hxl, hfld⟩ := DataW.trod_struct Tryd.underlying24 hf
  have h22 := hfld 0 _ rfl
  match xs, hxl with
  | [y], _ =>
    have e : ((Value.agg #[v]).cells.toList.drop 0).take (Tryd.prog.cellsOf 22) = [v] := by rw [cells22]; rfl
    simp only [List.getElem?_cons_zero] at h22
    have h22' : DataW.trod enc Tryd.prog W 0 (fun _ => true) true n 22 [v] = some y := by rw [← e]; exact h22
    simp only [Prod.mk.injEq] at hx
    obtain ⟨rfl, _⟩ := hx
    have hs2 : ∀ m ∈ y.1.weights Tryd.prog 22, m ≤ reachBytes := fun m hm => hs m (by simpa [DataW.weights, DataW.weightsEach, Tryd.underlying24] using hm)
    rcases Go.Deep.open_slice Tryd.underlying22 h22' with ⟨e1, _⟩ | ⟨a, len, cap, m, n', D, Pl, e1, _, hl, hm, hmm, rfl, hel⟩
    · simp only [List.cons.injEq, and_true] at e1
      subst e1
      exact ⟨_, [], rfl, ⟨none, 0, rfl, by simp, by simp [maxLen], fun _ => rfl, fun h => by simp at h⟩, fun i hi => by simp at hi, by simp⟩
    · simp only [List.cons.injEq, and_true] at e1
      subst e1
      simp only [if_true] at hmm
      subst hmm
      have hw : (((List.range len).map D).length + ((List.range (m - len)).map fun j => D (len + j)).length) * Tryd.prog.bytesOf 46 ≤ reachBytes := by
        refine hs2 _ ?_
        simp [DataW.weights, Tryd.underlying22]
      rw [bytes50] at hw
      simp only [List.length_map, List.length_range, reachBytes] at hw
      rw [cells50] at hel
      have each : ∀ i, i < len → ∃ y : FileL × Value, FileC W a.block (a.off + i * 3) y.2 y.1 ∧ a.spot = none ∧ a.block < W.heap.size ∧ (∀ x ∈ y.1.data, 0 ≤ x ∧ x ≤ 255) ∧ -9223372036854775808 ≤ y.1.synced ∧ y.1.synced ≤ 9223372036854775807 ∧ y.1.name.size ≤ maxLen ∧ y.1.data.length ≤ 140737488351232 := by
        intro i hi
        obtain ⟨cs', hc, ht⟩ := hel i (by omega)
        have hs3 : ∀ q ∈ (D i).weights Tryd.prog 46, q ≤ reachBytes := fun q hq => hs2 q (by
          simp only [DataW.weights, Tryd.underlying22, List.mem_cons, List.mem_append]
          exact .inr (.inl (weights_all (List.mem_map.2 ⟨i, by simpa using hi, rfl⟩) q hq)))
        obtain ⟨f, v, rfl, hr, hb, g1, g2, g3, g4⟩ := open_file ht hs3
        obtain ⟨_, _, hcell⟩ := World.cells?_some hc
        have k0 := hcell 0 (by omega)
        have k1 := hcell 1 (by omega)
        have k2 := hcell 2 (by omega)
        rw [addr_addr] at k0 k1 k2
        simp only [List.getElem?_cons_zero, List.getElem?_cons_succ] at k0 k1 k2
        have hsp : a.spot = none := by
          obtain ⟨cs0, hc0, ht0⟩ := hel 0 (by omega)
          obtain ⟨_, hl0, hcell0⟩ := World.cells?_some hc0
          have q0 := hcell0 0 (by omega)
          have e0 : (a.add (0 * 3)).add 0 = a := by simp [Addr.add]
          rw [e0] at q0
          rw [List.getElem?_eq_getElem (by omega)] at q0
          exact World.cell?_spot q0
        obtain ⟨ab, ao, asp⟩ := a
        simp only at hsp
        subst hsp
        have hadd : ∀ t, (⟨ab, ao, none⟩ : Addr).add t = ⟨ab, ao + t, none⟩ := fun t => by unfold Addr.add; split <;> simp_all
        rw [hadd] at k0 k1 k2
        refine ⟨(f, v), ⟨by simpa using k0, by simpa [Nat.add_assoc] using k1, by simpa [Nat.add_assoc] using k2, hr⟩, rfl, World.block_lt_of_cell? W ⟨ab, ao + (i * 3 + 0), none⟩ k0, hb, g1, g2, g3, g4⟩
      obtain ⟨F, hF⟩ := @Go.Deep.choose_lt (FileL × Value) ⟨(noF, undef)⟩ len _ each
      have hfl : ((List.range len).map fun i => (F i).1).length = len := by simp
      have hgd : ∀ i, i < len → ((List.range len).map fun i => (F i).1).getD i noF = (F i).1 := fun i hi => by rw [List.getD_eq_getElem?_getD, List.getElem?_map, List.getElem?_range hi]; rfl
      refine ⟨_, (List.range len).map fun i => (F i).1, rfl, ⟨some a, m, by rw [hfl], by rw [hfl]; exact hl, hm, fun e => (by cases e), fun hn => ?_⟩, fun i hi => ?_, by rw [hfl]; omega⟩
      · rw [hfl] at hn
        obtain ⟨_, hsp, hlt, _⟩ := hF 0 hn
        refine ⟨a.block, a.off, by obtain ⟨ab, ao, asp⟩ := a; simp only at hsp; subst hsp; rfl, hlt, fun i => (F i).2, fun i hi => ?_⟩
        rw [hfl] at hi
        rw [hgd i hi]
        exact (hF i hi).1
      · rw [hfl] at hi
        rw [hgd i hi]
        exact (hF i hi).2.2.2
end Go.Proofs.YthakibcfmbkpkaaDoor
