/-
  Notes that came in: what their datum says of memory.
-/
import Derived.Test.YtdhaccljidhdcabDiskOpen
namespace Go.Proofs.Ytdhaccljidhdcab
open Go.ChangeShapes Go.WideShapes Go.ChangeAt Go.RowKit

structure NoteL where
  kind : Int
  name : Int
  keep : Int
  data : List Int
def noN : NoteL := ⟨0, 0, 0, []⟩
def i64B (n : Int) : Prop := -9223372036854775808 ≤ n ∧ n ≤ 9223372036854775807
/-- A slice of notes reads as ns. -/
def NotesR (w : World) (v : Value) (ns : List NoteL) : Prop :=
  ∃ a cap, v = .slice a ns.length cap ∧ ns.length ≤ cap ∧ cap ≤ maxLen ∧
    (0 < ns.length → ∃ b off, a = some ⟨b, off, none⟩ ∧ b < w.heap.size ∧ ∃ vs : Nat → Value, ∀ i, i < ns.length →
      w.cell? ⟨b, off + i * 4, none⟩ = some (.int .i64 (ns.getD i noN).kind) ∧ w.cell? ⟨b, off + i * 4 + 1, none⟩ = some (.int .i64 (ns.getD i noN).name) ∧ w.cell? ⟨b, off + i * 4 + 2, none⟩ = some (.int .i64 (ns.getD i noN).keep) ∧ w.cell? ⟨b, off + i * 4 + 3, none⟩ = some (vs i) ∧ Reads .u8 w (vs i) (ns.getD i noN).data)
def GoodN (ns : List NoteL) : Prop := ∀ i, i < ns.length → i64B (ns.getD i noN).kind ∧ i64B (ns.getD i noN).name ∧ i64B (ns.getD i noN).keep ∧ ∀ x ∈ (ns.getD i noN).data, 0 ≤ x ∧ x ≤ 255

theorem cellsN : Try.prog.cellsOf 46 = 4 := by kernel_rfl

/-- A struct of four fields. -/
theorem struct4 {H : Type} {enc : TypeId × Value → H} {w : World} {t : TypeId} {f0 f1 f2 f3 : Field} {fuel : Nat} {cs : List Value} {x : DataW H × List MemPlace} (ht : Try.prog.underlying t = some (.struct #[f0, f1, f2, f3])) (h : DataW.trod enc Try.prog w 0 (fun _ => true) true fuel t cs = some x) :
    ∃ y0 y1 y2 y3 n, cs.length = Try.prog.cellsOf t ∧ DataW.trod enc Try.prog w 0 (fun _ => true) true n f0.type ((cs.drop f0.offset).take (Try.prog.cellsOf f0.type)) = some y0 ∧
      DataW.trod enc Try.prog w 0 (fun _ => true) true n f1.type ((cs.drop f1.offset).take (Try.prog.cellsOf f1.type)) = some y1 ∧ DataW.trod enc Try.prog w 0 (fun _ => true) true n f2.type ((cs.drop f2.offset).take (Try.prog.cellsOf f2.type)) = some y2 ∧ DataW.trod enc Try.prog w 0 (fun _ => true) true n f3.type ((cs.drop f3.offset).take (Try.prog.cellsOf f3.type)) = some y3 := by
  obtain ⟨xs, n, _, _, hl, hlen, hf⟩ := DataW.trod_struct ht h
  match xs, hlen with
  | [y0, y1, y2, y3], _ => exact ⟨y0, y1, y2, y3, n, hl, by simpa using hf 0 f0 rfl, by simpa using hf 1 f1 rfl, by simpa using hf 2 f2 rfl, by simpa using hf 3 f3 rfl⟩

set_option maxHeartbeats 400000 in
/-- One note's cells, opened. -/
theorem open_note {H : Type} {enc : TypeId × Value → H} {w : World} {n : Nat} {cs : List Value} {x : DataW H × List MemPlace} (h : DataW.trod enc Try.prog w 0 (fun _ => true) true n 46 cs = some x) :
    ∃ (f : NoteL) (v : Value), cs = [.int .i64 f.kind, .int .i64 f.name, .int .i64 f.keep, v] ∧ Reads .u8 w v f.data ∧ i64B f.kind ∧ i64B f.name ∧ i64B f.keep ∧ ∀ x ∈ f.data, 0 ≤ x ∧ x ≤ 255 := by
  obtain ⟨y0, y1, y2, y3, m, hl, h0, h1, h2, h3⟩ := struct4 Try.underlying46 h
  rw [cellsN] at hl
  match cs, hl with
  | [c0, c1, c2, c3], _ =>
    simp only [cells25, cells3, List.drop_zero, List.drop_succ_cons, List.take_succ_cons, List.take_zero] at h0 h1 h2 h3
    obtain ⟨i0, e0, _, hi0⟩ := DataW.trod_int Try.underlying3 h0
    obtain ⟨i1, e1, _, hi1⟩ := DataW.trod_int Try.underlying3 h1
    obtain ⟨i2, e2, _, hi2⟩ := DataW.trod_int Try.underlying3 h2
    simp only [List.cons.injEq, and_true] at e0 e1 e2
    subst e0 e1 e2
    have b0 := bounds_i64 hi0
    have b1 := bounds_i64 hi1
    have b2 := bounds_i64 hi2
    rcases open_ints Try.underlying23 Try.underlying5 cells5 h3 with ⟨e3, _⟩ | ⟨a, len, cap, zs, e3, _, hle, hm, hz, _, hcell, hwf⟩
    · simp only [List.cons.injEq, and_true] at e3
      subst e3
      exact ⟨⟨i0, i1, i2, []⟩, _, rfl, ⟨none, 0, rfl, by simp, by simp [maxLen], fun _ => rfl, fun x hx => by cases hx⟩, b0, b1, b2, by simp⟩
    · simp only [List.cons.injEq, and_true] at e3
      subst e3
      have hz2 : zs.length = cap := by simpa using hz
      have el : (zs.take len).length = len := List.length_take_of_le (by omega)
      refine ⟨⟨i0, i1, i2, zs.take len⟩, _, rfl, ⟨some a, cap, by rw [el], by rw [el]; omega, hm, fun e => (by cases e), fun x hx j hj => ?_⟩, b0, b1, b2, bytes_wf (fun n hn => hwf n (List.mem_of_mem_take hn))⟩
      injection hx with hx
      subst hx
      rw [el] at hj
      rw [hcell j (by omega), List.getD_eq_getElem?_getD, List.getD_eq_getElem?_getD, List.getElem?_take_of_lt hj]

set_option maxHeartbeats 400000 in
theorem open_notes {H : Type} {enc : TypeId × Value → H} {W : World} {v0 : Value} {d0 : DataW H} {p0 : List MemPlace} (hv : ∃ a len cap, v0 = .slice a len cap) (h0 : DataW.Trod enc Try.prog W 0 (fun _ => true) true 22 v0 d0 p0) :
    ∃ ns, NotesR W v0 ns ∧ GoodN ns := by
  obtain ⟨a0, len0, cap0, rfl⟩ := hv
  obtain ⟨fuel, hf⟩ := h0
  rcases Go.Deep.open_slice Try.underlying22 hf with ⟨e1, _⟩ | ⟨a, len, cap, m, n', D, Pl, e1, _, hl, hm, hmm, _, hel⟩
  · simp [Value.cells] at e1
    obtain ⟨rfl, rfl, rfl⟩ := e1
    exact ⟨[], ⟨none, 0, rfl, by simp, by simp [maxLen], fun h => by simp at h⟩, fun i hi => by simp at hi⟩
  · simp [Value.cells] at e1
    obtain ⟨rfl, rfl, rfl⟩ := e1
    simp only [if_true] at hmm
    subst hmm
    rw [cellsN] at hel
    have each : ∀ i, i < len0 → ∃ y : NoteL × Value, (W.cell? ⟨a.block, a.off + i * 4, none⟩ = some (.int .i64 y.1.kind) ∧ W.cell? ⟨a.block, a.off + i * 4 + 1, none⟩ = some (.int .i64 y.1.name) ∧ W.cell? ⟨a.block, a.off + i * 4 + 2, none⟩ = some (.int .i64 y.1.keep) ∧ W.cell? ⟨a.block, a.off + i * 4 + 3, none⟩ = some y.2 ∧ Reads .u8 W y.2 y.1.data) ∧ a.spot = none ∧ a.block < W.heap.size ∧ i64B y.1.kind ∧ i64B y.1.name ∧ i64B y.1.keep ∧ ∀ x ∈ y.1.data, 0 ≤ x ∧ x ≤ 255 := by
      intro i hi
      obtain ⟨cs', hc, ht⟩ := hel i (by omega)
      obtain ⟨f, v, rfl, hr, b0, b1, b2, hb⟩ := open_note ht
      obtain ⟨_, _, hcell⟩ := World.cells?_some hc
      have k0 := hcell 0 (by omega)
      have k1 := hcell 1 (by omega)
      have k2 := hcell 2 (by omega)
      have k3 := hcell 3 (by omega)
      rw [addr_addr] at k0 k1 k2 k3
      simp only [List.getElem?_cons_zero, List.getElem?_cons_succ] at k0 k1 k2 k3
      have hsp : a.spot = none := by
        obtain ⟨cs0, hc0, ht0⟩ := hel 0 (by omega)
        obtain ⟨_, hl0, hcell0⟩ := World.cells?_some hc0
        have q0 := hcell0 0 (by omega)
        have e0 : (a.add (0 * 4)).add 0 = a := by simp [Addr.add]
        rw [e0] at q0
        rw [List.getElem?_eq_getElem (by omega)] at q0
        exact World.cell?_spot q0
      obtain ⟨ab, ao, asp⟩ := a
      simp only at hsp
      subst hsp
      have hadd : ∀ t, (⟨ab, ao, none⟩ : Addr).add t = ⟨ab, ao + t, none⟩ := fun t => by unfold Addr.add; split <;> simp_all
      rw [hadd] at k0 k1 k2 k3
      exact ⟨(f, v), ⟨by simpa using k0, by simpa [Nat.add_assoc] using k1, by simpa [Nat.add_assoc] using k2, by simpa [Nat.add_assoc] using k3, hr⟩, rfl, World.block_lt_of_cell? W ⟨ab, ao + (i * 4 + 0), none⟩ k0, b0, b1, b2, hb⟩
    obtain ⟨F, hF⟩ := @Go.Deep.choose_lt (NoteL × Value) ⟨(noN, undef)⟩ len0 _ each
    have hfl : ((List.range len0).map fun i => (F i).1).length = len0 := by simp
    have hgd : ∀ i, i < len0 → ((List.range len0).map fun i => (F i).1).getD i noN = (F i).1 := fun i hi => by rw [List.getD_eq_getElem?_getD, List.getElem?_map, List.getElem?_range hi]; rfl
    refine ⟨(List.range len0).map fun i => (F i).1, ⟨some a, m, by rw [hfl], by rw [hfl]; exact hl, hm, fun hn => ?_⟩, fun i hi => ?_⟩
    · rw [hfl] at hn
      obtain ⟨_, hsp, hlt, _⟩ := hF 0 hn
      refine ⟨a.block, a.off, by obtain ⟨ab, ao, asp⟩ := a; simp only at hsp; subst hsp; rfl, hlt, fun i => (F i).2, fun i hi => ?_⟩
      rw [hfl] at hi
      rw [hgd i hi]
      exact (hF i hi).1
    · rw [hfl] at hi
      rw [hgd i hi]
      exact (hF i hi).2.2.2
end Go.Proofs.Ytdhaccljidhdcab
