/-
  P14.6 as a function: synced, and renamed to a slot.
-/
import Derived.Test.YthakibcfmbkpkaaDoorDiskNext
import Derived.Test.YthakibcfmbkpkaaDoorSlotName
import Derived.Test.YthakibcfmbkpkaaDoorSyncWalk
import Derived.Test.YthakibcfmbkpkaaDoorRenameWalk
namespace Go.Proofs.YthakibcfmbkpkaaDoor
set_option maxRecDepth 100000
open Go.ChangeShapes Go.WideShapes Go.ChangeAt Go.RowKit

def sealE (fs : List FileL) (n : Int) : List FileL × Int :=
  if 0 ≤ n ∧ n ≤ 1 then (if (chF fs (syncF fs nxt)).2 = 0 then chF (chF fs (syncF fs nxt)).1 (renameF (chF fs (syncF fs nxt)).1 nxt (slotB n)) else ([], (chF fs (syncF fs nxt)).2)) else ([], 2)
theorem sealE_no {fs : List FileL} {n : Int} (h : ¬ (0 ≤ n ∧ n ≤ 1)) : sealE fs n = ([], 2) := by rw [sealE, if_neg h]
theorem sealE_err {fs : List FileL} {n : Int} (h : 0 ≤ n ∧ n ≤ 1) (h2 : ¬ (chF fs (syncF fs nxt)).2 = 0) : sealE fs n = ([], (chF fs (syncF fs nxt)).2) := by rw [sealE, if_pos h, if_neg h2]
theorem sealE_yes {fs : List FileL} {n : Int} (h : 0 ≤ n ∧ n ≤ 1) (h2 : (chF fs (syncF fs nxt)).2 = 0) : sealE fs n = chF (chF fs (syncF fs nxt)).1 (renameF (chF fs (syncF fs nxt)).1 nxt (slotB n)) := by rw [sealE, if_pos h, if_pos h2]
theorem slotB_max (n : Int) : (slotB n).size ≤ maxLen := by rw [slotB_size]; decide
theorem good_sealE {fs : List FileL} {n : Int} (hg : Good fs) : Good (sealE fs n).1 := by
  unfold sealE
  split
  · split
    · exact good_ch (good_ch hg (good_sync hg)) (good_rename (good_ch hg (good_sync hg)) (slotB_max n))
    · exact good_nil
  · exact good_nil
theorem DiskR.nil (w : World) : DiskR w (.slice none 0 0) [] := ⟨none, 0, rfl, by simp, by simp [maxLen], fun _ => rfl, fun h => by simp at h⟩
theorem DskP.none {w w' : World} {f : Int} (hb : Below w.heap.size w w') : DskP w ([], f) (.returned (.tuple #[.agg #[.slice none 0 0], .int .i64 f])) w' := ⟨_, rfl, DiskR.nil _, hb⟩
theorem sync_len {fs : List FileL} {n : ByteArray} : (chF fs (syncF fs n)).1.length ≤ fs.length := by
  unfold chF
  split
  · unfold syncF
    split <;> simp
  · simp
end Go.Proofs.YthakibcfmbkpkaaDoor
