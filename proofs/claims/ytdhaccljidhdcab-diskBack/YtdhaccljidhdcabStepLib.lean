/-
  A step of a law that puts a new disk into its variable's box; and what CrashKeeps asks, as plain mathematics.
-/
import Derived.Test.YtdhaccljidhdcabDoneWalk
namespace Go.Proofs.Ytdhaccljidhdcab
open Go.ChangeShapes Go.WideShapes Go.ChangeAt Go.RowKit

/-- One goal for several ways that come together. -/
theorem Hid.cut {G X : Prop} (h : Hid G → X) (g : G) : X := h g

/-- From W to V: the box p holds the disk v now, which reads as q; what the law was handed is as it was, and all bytes that were read still read so. -/
structure Stp (w W V : World) (p : Nat) (v : Value) (q : List FileL) : Prop where
  box : V.heap[p]? = some (.cells #[v] 26 (0, 0))
  disk : DiskR V v q
  below : Below w.heap.size w V
  size : W.heap.size ≤ V.heap.size
  reads : ∀ x xs, Reads .u8 W x xs → Reads .u8 V x xs
theorem Stp.cell {w W V : World} {p : Nat} {v : Value} {q : List FileL} (h : Stp w W V p v q) : V.cell? ⟨p, 0, none⟩ = some v := by rw [cell_of_row V _ _ _ _ _ h.box]; rfl
theorem Stp.frozen {w W V : World} {p : Nat} {v : Value} {q : List FileL} (h : Stp w W V p v q) : V.frozen? ⟨p, 0, none⟩ = false := by simp only [World.frozen?, h.box]; simp
theorem Stp.lt {w W V : World} {p : Nat} {v : Value} {q : List FileL} (h : Stp w W V p v q) : p < V.heap.size := World.block_lt_of_cell? V _ h.cell
/-- The box is made. -/
theorem Stp.new {w W : World} {v : Value} {q : List FileL} (h : DiskR W v q) (hb : Below w.heap.size w W) : Stp w W (W.alloc (.cells #[v] 26)) W.heap.size v q :=
  ⟨heap_alloc_new _ _, h.below (below_alloc _ _) (Nat.le_refl _), hb.alloc hb.size _, by simp, fun _ _ hx => hx.below (below_alloc _ _) (Nat.le_refl _)⟩
/-- Nothing below has turned. -/
theorem Stp.go {w W V V' : World} {p : Nat} {v : Value} {q : List FileL} (h : Stp w W V p v q) (hb : Below V.heap.size V V') : Stp w W V' p v q :=
  ⟨(hb.block _ h.lt).trans h.box, h.disk.below hb (Nat.le_refl _), h.below.trans (hb.mono h.below.size), Nat.le_trans h.size hb.size, fun x xs hx => (h.reads x xs hx).below hb (Nat.le_refl _)⟩
/-- Another disk is put into the box. -/
theorem Stp.set {w W V : World} {p : Nat} {a : Option Addr} {n c : Nat} {v' : Value} {q q' : List FileL} (h : Stp w W V p (.slice a n c) q) (hp : w.heap.size ≤ p) (hd : DiskR V v' q') : Stp w W (V.setCell ⟨p, 0, none⟩ v') p v' q' :=
  ⟨heap_box_set _ h.box, hd.setBox h.box, h.below.setCell (p := ⟨p, 0, none⟩) hp _, by rw [size_setCell]; exact h.size, fun x xs hx => (h.reads x xs hx).set h.cell (fun m e => by cases e)⟩
theorem Stp.then {w U W V : World} {p : Nat} {v v' : Value} {q q' : List FileL} (h : Stp w U W p v q) (k : Stp w W V p v' q') : Stp w U V p v' q' :=
  ⟨k.box, k.disk, k.below, Nat.le_trans h.size k.size, fun x xs hx => k.reads x xs (h.reads x xs hx)⟩

theorem Stp.here {w W V : World} {p : Nat} {v : Value} {q : List FileL} (h : Stp w W V p v q) : Stp w V V p v q := ⟨h.box, h.disk, h.below, Nat.le_refl _, fun _ _ hx => hx⟩

/-- What CrashKeeps asks. -/
theorem keeps_math {fs : List FileL} {n : ByteArray} {X Y : List Int} {k : Int} (hi : Inv fs 20 600) (hn : nmB n = true) (hns : n.size ≤ maxLen) (hX : ∀ x ∈ X, 0 ≤ x ∧ x ≤ 255) (hX30 : X.length ≤ 30) (hY : ∀ x ∈ Y, 0 ≤ x ∧ x ≤ 255) (hY30 : Y.length ≤ 30) (hk : 0 ≤ k) :
    ∃ q1 q2 q3 q4 SA AL LF, appendF fs n X = (q1, 0) ∧ Inv q1 21 630 ∧ syncF q1 n = (q2, 0) ∧ Inv q2 21 630 ∧ readF q2 n = (SA, 0) ∧ appendF q2 n Y = (q3, 0) ∧ Inv q3 22 660 ∧ readF q3 n = (AL, 0) ∧ crashF q3 k = (q4, 0) ∧ Inv q4 22 660 ∧ readF q4 n = (LF, 0) ∧
      (LF.length : Int) = min (AL.length : Int) ((SA.length : Int) + k) ∧ LF = AL.take LF.length ∧ 0 < q4.length ∧ AL.length ≤ 100000 ∧ SA.length ≤ AL.length ∧ (∀ x ∈ LF, 0 ≤ x ∧ x ≤ 255) := by
  obtain ⟨q1, e1, i1, _, l1⟩ := append_does hi hn hns hX (by omega) (by omega)
  have i1' : Inv q1 21 630 := i1.mono (by omega) (by omega)
  have l1' := l1 n
  rw [if_pos rfl] at l1'
  obtain ⟨q2, e2, i2, _, _, l2⟩ := sync_does i1' l1'
  have l2' := l2 n
  rw [if_pos rfl] at l2'
  obtain ⟨q3, e3, i3, p3, l3⟩ := append_does i2 hn hns hY (by omega) (by omega)
  have i3' : Inv q3 22 660 := i3.mono (by omega) (by omega)
  have l3' := l3 n
  rw [if_pos rfl, l2'] at l3'
  obtain ⟨q4, e4, i4, z4, l4⟩ := crash_does i3' hk
  have l4' := l4 n
  rw [l3'] at l4'
  have r2 : readF q2 n = (hadD (lk fs n) ++ X, 0) := by rw [readF_lk i2.may, l2']; rfl
  have r3 : readF q3 n = (hadD (lk fs n) ++ X ++ Y, 0) := by rw [readF_lk i3'.may, l3']; rfl
  have r4 : readF q4 n = ((hadD (lk fs n) ++ X ++ Y).take (endF k ⟨n, hadD (lk fs n) ++ X ++ Y, ((hadD (lk fs n) ++ X).length : Int)⟩).toNat, 0) := by rw [readF_lk i4.may, l4']; rfl
  have hb := readF_bytes (n := n) i4.good
  rw [r4] at hb
  generalize hA : hadD (lk fs n) ++ X = A at *
  have hL : ((A ++ Y).take (endF k ⟨n, A ++ Y, (A.length : Int)⟩).toNat).length = min (endF k ⟨n, A ++ Y, (A.length : Int)⟩).toNat (A ++ Y).length := List.length_take
  have hle : (A ++ Y).length = A.length + Y.length := List.length_append
  have hok : (A ++ Y).length ≤ 100000 := by
    rcases lk_cases (L := q3) n with ⟨i, hi, _, e9⟩ | ⟨_, e9⟩
    · rw [e9] at l3'
      injection l3' with l3'
      have := i3'.data i hi
      rw [l3'] at this
      exact Nat.le_trans this (by omega)
    · rw [e9] at l3'; cases l3'
  refine ⟨q1, q2, q3, q4, A, A ++ Y, _, e1, i1', e2, i2, r2, e3, i3', r3, e4, i4, r4, ?_, ?_, by omega, hok, by omega, hb⟩
  · rw [hL]; unfold endF; simp only; omega
  · rw [hL]
    rcases Nat.le_total (endF k ⟨n, A ++ Y, (A.length : Int)⟩).toNat (A ++ Y).length with h | h
    · rw [Nat.min_eq_left h]
    · rw [Nat.min_eq_right h, List.take_of_length_le h, List.take_length]
end Go.Proofs.Ytdhaccljidhdcab
