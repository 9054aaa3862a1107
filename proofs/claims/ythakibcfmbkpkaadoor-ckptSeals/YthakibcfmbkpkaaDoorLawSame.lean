/-
  Contracts of the law's own helpers: sameBytes, sameDisk (of disks that read alike), octets, disks.
-/
import Derived.Test.YthakibcfmbkpkaaDoorCopyWalk
import Derived.Test.YthakibcfmbkpkaaDoorSameBytes
namespace Go.Proofs.YthakibcfmbkpkaaDoor
set_option maxRecDepth 100000
open Go.ChangeShapes Go.WideShapes Go.ChangeAt Go.RowKit

theorem sameBytes_yes (va vb : Value) (xs : List Int) (w : World) (ha : Reads .u8 w va xs) (hb : Reads .u8 w vb xs) (hx : ∀ x ∈ xs, 0 ≤ x ∧ x ≤ 255) :
    Calls Tryd.prog 23 #[va, vb] w fun e w' => e = .returned (.bool true) ∧ w' = w :=
  (sameBytes_any va vb xs xs w ha hb hx hx).mono fun e w' h => ⟨by rw [h.1]; simp, h.2⟩

set_option maxHeartbeats 1000000 in
set_option maxRecDepth 100000 in
theorem sameDisk_yes (va vb : Value) (fs : List FileL) (w : World) (ha : DiskR w va fs) (hb : DiskR w vb fs) (hg : Good fs) :
    Calls Tryd.prog 9 #[.agg #[va], .agg #[vb]] w fun e w' => e = .returned (.bool true) ∧ Below w.heap.size w w' := by
  have HG : Hid (Good fs) := hg
  obtain ⟨a, ca, rfl, hca, hma, _, hela⟩ := ha
  obtain ⟨b, cb, rfl, hcb, hmb, _, helb⟩ := hb
  have HA : Hid (0 < fs.length → ∃ x off, a = some ⟨x, off, none⟩ ∧ x < w.heap.size ∧ ∃ vs : Nat → Value, ∀ i, i < fs.length → FileC w x (off + i * 3) (vs i) (fs.getD i noF)) := hela
  have HB : Hid (0 < fs.length → ∃ x off, b = some ⟨x, off, none⟩ ∧ x < w.heap.size ∧ ∃ vs : Nat → Value, ∀ i, i < fs.length → FileC w x (off + i * 3) (vs i) (fs.getD i noF)) := helb
  clear hela helb hg
  unfold maxLen at hma hmb
  have hll : ((fs.length : Int) != (fs.length : Int)) = false := by simp
  go_enter Tryd.func9, Tryd.ntmps9
  go_wp2_with fail
  go_loopw [5] (fun i wr => ∃ k : Nat, k ≤ fs.length ∧ i = .int .i64 k ∧ Below (w.heap.size + 2) ((w.alloc (.cells #[.slice a fs.length ca] 24)).alloc (.cells #[.slice b fs.length cb] 24)) wr) (fun i _ => fs.length - (intOf i).toNat)
  case atStart => exact ⟨0, by omega, rfl, Below.refl _ _⟩
  case round =>
    obtain ⟨k, hk, rfl, hbel⟩ := hrel
    have x0 := two_cell0 hbel
    have x1 := two_cell1 hbel
    have HBL : Hid (Below (w.heap.size + 2) ((w.alloc (.cells #[.slice a fs.length ca] 24)).alloc (.cells #[.slice b fs.length cb] 24)) wr) := hbel
    have hsz : w.heap.size + 2 ≤ wr.heap.size := by have := hbel.size; simp at this; omega
    clear hbel
    by_cases hlt : k < fs.length
    · obtain ⟨xa, oa, rfl, la, va, hva⟩ := HA.out (by omega)
      obtain ⟨xb, ob, rfl, lb, vb, hvb⟩ := HB.out (by omega)
      have BW : Below w.heap.size w wr := below_two HBL.out
      obtain ⟨a1, a2, a3, a4⟩ := (hva k hlt).below BW (Nat.le_refl _)
      obtain ⟨b1, b2, b3, b4⟩ := (hvb k hlt).below BW (Nat.le_refl _)
      have HBY : Hid (∀ x ∈ (fs.getD k noF).data, 0 ≤ x ∧ x ≤ 255) := (HG.out k hlt).1
      have RA : Hid (Reads .u8 wr (va k) (fs.getD k noF).data) := a4
      have RB : Hid (Reads .u8 wr (vb k) (fs.getD k noF).data) := b4
      have hnm : ((fs.getD k noF).name.toList == (fs.getD k noF).name.toList) = true := by simp
      have hsy : ((fs.getD k noF).synced != (fs.getD k noF).synced) = false := by simp
      clear hva hvb HA HB a4 b4
      generalize fs.getD k noF = f at *
      generalize va k = u at *
      generalize vb k = v at *
      obtain ⟨ua, un, uc, rfl⟩ : ∃ a n c, u = .slice a n c := by obtain ⟨a, c, h, _⟩ := RA.out; exact ⟨_, _, _, h⟩
      obtain ⟨wa, wn, wc, rfl⟩ : ∃ a n c, v = .slice a n c := by obtain ⟨a, c, h, _⟩ := RB.out; exact ⟨_, _, _, h⟩
      have xx1 : ∀ X, (wr.alloc X).cell? ⟨w.heap.size + 1, 0, none⟩ = some (.slice (some ⟨xb, ob, none⟩) fs.length cb) := fun X => ((below_alloc wr X).cell (p := ⟨w.heap.size + 1, 0, none⟩) (show w.heap.size + 1 < wr.heap.size by omega)).trans x1
      have lx : xb < wr.heap.size := by omega
      have y1 : ∀ X, (wr.alloc X).cell? ⟨xb, ob + k * 3, none⟩ = some (.string f.name) := fun X => ((below_alloc wr X).cell (p := ⟨xb, ob + k * 3, none⟩) lx).trans b1
      have y2 : ∀ X, (wr.alloc X).cell? ⟨xb, ob + k * 3 + 1, none⟩ = some (.slice wa wn wc) := fun X => ((below_alloc wr X).cell (p := ⟨xb, ob + k * 3 + 1, none⟩) lx).trans b2
      have y3 : ∀ X, (wr.alloc X).cell? ⟨xb, ob + k * 3 + 2, none⟩ = some (.int .i64 f.synced) := fun X => ((below_alloc wr X).cell (p := ⟨xb, ob + k * 3 + 2, none⟩) lx).trans b3
      clear b1 b2 b3 BW
      go_wp2_with fail
      refine (sameBytes_yes _ _ f.data _ ?_ ?_ HBY.out).mono ?_
      · exact (RA.out.below (below_alloc _ _) (Nat.le_refl _)).below (below_alloc _ _) (Nat.le_refl _)
      · exact (RB.out.below (below_alloc _ _) (Nat.le_refl _)).below (below_alloc _ _) (Nat.le_refl _)
      rintro e w' ⟨rfl, rfl⟩
      go_wp2_with fail
      go_roundw
      case rel => exact ⟨k + 1, by omega, by go_num, (HBL.out.alloc (by omega) _).alloc (by simp; omega) _⟩
      case measure => simp [intOf]; omega
    · go_wp2_with fail
      go_ret
      exact ⟨ret_bool rfl, below_two HBL.out⟩

set_option maxHeartbeats 400000 in
theorem disks_any (v : Value) (fs : List FileL) (w : World) (h : DiskR w v fs) (hg : Good fs) (hl : fs.length * 48 ≤ 140737488351232) :
    Calls Tryd.prog 6 #[.agg #[v]] w fun e w' => ∃ v', e = .returned (.agg #[v']) ∧ DiskR w' v' fs ∧ Below w.heap.size w w' := by
  have HD : Hid (DiskR w v fs) := h
  obtain ⟨a, cap, rfl, _, _, _, _⟩ := h
  go_enter Tryd.func6, Tryd.ntmps6
  go_wp2_with fail
  refine (diskCopy_any _ fs _ ?_ hg hl).mono ?_
  · exact (HD.out.below (below_alloc _ _) (Nat.le_refl _)).below (below_alloc _ _) (Nat.le_refl _)
  rintro e w1 ⟨v1, vs, rfl, ho, hb⟩
  have hb2 : Below (w.heap.size + 2) ((w.alloc (.cells #[.slice a fs.length cap] 24)).alloc (.cells #[.slice none 0 0] 24)) w1 := by simpa using hb
  have r1 := two_cell1 hb2
  have r2 : w1.frozen? ⟨w.heap.size + 1, 0, none⟩ = false := (hb2.frozen (p := ⟨w.heap.size + 1, 0, none⟩) (Nat.lt_succ_self _)).trans (frozen_second _ _ _ _)
  have O1 : Hid (OwnD w1 (w.heap.size + 2) v1 fs vs) := by simpa [Hid] using ho
  have B1 : Hid (Below w.heap.size w w1) := below_two hb2
  clear hb hb2 ho
  obtain ⟨ua, un, uc, rfl⟩ : ∃ a n c, v1 = .slice a n c := by rcases O1.out.shape with ⟨h, _⟩ | ⟨g, c, h, _⟩ <;> exact ⟨_, _, _, h⟩
  go_wp2_with fail
  refine bodyPost_ret (v := .agg #[.slice ua un uc]) (by simp [results, Tryd.results6, go_sem, r1]) rfl ⟨_, rfl, (O1.out.setBelow (show w.heap.size + 1 < w.heap.size + 2 by omega) _).reads, ?_⟩
  exact B1.out.setCell (show w.heap.size ≤ w.heap.size + 1 by omega) _
end Go.Proofs.YthakibcfmbkpkaaDoor
