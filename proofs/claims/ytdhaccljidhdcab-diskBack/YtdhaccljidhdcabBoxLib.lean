/-
  A step of a law that makes a box for a new disk; and what CrashAgain asks, as plain mathematics.
-/
import Derived.Test.YtdhaccljidhdcabStepLib
namespace Go.Proofs.Ytdhaccljidhdcab
open Go.ChangeShapes Go.WideShapes Go.ChangeAt Go.RowKit

/-- From W to V: nothing of W has turned, and a new box b holds the disk v, which reads as q. -/
def NewB (W V : World) (b : Nat) (v : Value) (q : List FileL) : Prop :=
  Below W.heap.size W V ∧ W.heap.size ≤ b ∧ V.heap[b]? = some (.cells #[v] 26 (0, 0)) ∧ DiskR V v q
theorem NewB.cell {W V : World} {b : Nat} {v : Value} {q : List FileL} (h : NewB W V b v q) : V.cell? ⟨b, 0, none⟩ = some v := by rw [cell_of_row V _ _ _ _ _ h.2.2.1]; rfl
theorem NewB.lt {W V : World} {b : Nat} {v : Value} {q : List FileL} (h : NewB W V b v q) : b < V.heap.size := World.block_lt_of_cell? V _ h.cell
theorem NewB.go {W V V' : World} {b : Nat} {v : Value} {q : List FileL} (h : NewB W V b v q) (hb : Below V.heap.size V V') : NewB W V' b v q :=
  ⟨h.1.trans (hb.mono h.1.size), h.2.1, (hb.block _ h.lt).trans h.2.2.1, h.2.2.2.below hb (Nat.le_refl _)⟩

/-- What CrashAgain asks. -/
theorem again_math {fs : List FileL} {n : ByteArray} {k1 k2 : Int} (hi : Inv fs 20 600) (h1 : 0 ≤ k1) (h2 : 0 ≤ k2) :
    ∃ f1 f2 X ee, crashF fs k1 = (f1, 0) ∧ Inv f1 20 600 ∧ f1.length = fs.length ∧ crashF f1 k2 = (f2, 0) ∧ Inv f2 20 600 ∧ f2.length = fs.length ∧ readF f1 n = (X, ee) ∧ readF f2 n = (X, ee) ∧ (readF fs n).2 = ee ∧ (0 < fs.length ∨ ee = 7) ∧ (∀ x ∈ X, 0 ≤ x ∧ x ≤ 255) := by
  obtain ⟨f1, e1, i1, z1, l1⟩ := crash_does hi h1
  obtain ⟨f2, e2, i2, z2, l2⟩ := crash_does i1 h2
  have r1 : readF f1 n = rdF ((lk fs n).map (crash1 k1)) := by rw [readF_lk i1.may, l1]
  have r2 : readF f2 n = rdF (((lk fs n).map (crash1 k1)).map (crash1 k2)) := by rw [readF_lk i2.may, l2, l1]
  have r0 : readF fs n = rdF (lk fs n) := readF_lk hi.may
  have hb := readF_bytes (n := n) i1.good
  rcases lk_cases (L := fs) n with ⟨i, hii, _, e9⟩ | ⟨_, e9⟩
  · have hok := (may_iff.1 hi.may).2.1 i hii
    rw [e9] at r0 r1 r2
    obtain ⟨b1, b2, b3⟩ := end_bounds h1 hok
    generalize fs.getD i noF = f at *
    have hL : (f.data.take (endF k1 f).toNat).length = (endF k1 f).toNat := List.length_take_of_le (by omega)
    have hE : (endF k2 (crash1 k1 f)).toNat = (endF k1 f).toNat := by
      show (endF k1 f + min k2 (((f.data.take (endF k1 f).toNat).length : Int) - endF k1 f)).toNat = _
      rw [hL]; omega
    have r2' : readF f2 n = (f.data.take (endF k1 f).toNat, 0) := by
      rw [r2]
      show ((f.data.take (endF k1 f).toNat).take (endF k2 (crash1 k1 f)).toNat, (0 : Int)) = _
      rw [hE, List.take_of_length_le (Nat.le_of_eq hL)]
    refine ⟨f1, f2, f.data.take (endF k1 f).toNat, 0, e1, i1, z1, e2, i2, by omega, r1, r2', by rw [r0]; rfl, .inl (by omega), ?_⟩
    rw [r1] at hb
    exact hb
  · rw [e9] at r0 r1 r2
    exact ⟨f1, f2, [], 7, e1, i1, z1, e2, i2, by omega, r1, r2, by rw [r0]; rfl, .inr rfl, fun x hx => by cases hx⟩
end Go.Proofs.Ytdhaccljidhdcab
