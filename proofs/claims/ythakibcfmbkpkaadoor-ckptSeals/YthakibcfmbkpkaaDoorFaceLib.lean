/-
  What the faces of disk's changes have in common.
-/
import Derived.Test.YthakibcfmbkpkaaDoorFileSet
import Derived.Test.YthakibcfmbkpkaaDoorAppendRun
namespace Go.Proofs.YthakibcfmbkpkaaDoor
set_option maxRecDepth 100000
open Go.ChangeShapes Go.WideShapes Go.ChangeAt Go.RowKit

/-- A disk behind a store into a block of one cell that held a slice. -/
theorem DiskR.setBox {w : World} {v y : Value} {fs : List FileL} {q n c : Nat} {a : Option Addr} {t : TypeId} (h : DiskR w v fs) (hb : w.heap[q]? = some (.cells #[.slice a n c] t (0, 0))) : DiskR (w.setCell ⟨q, 0, none⟩ y) v fs := by
  have hc : w.cell? ⟨q, 0, none⟩ = some (.slice a n c) := by rw [cell_of_row w _ _ _ _ _ hb]; rfl
  refine h.setSlice hc (fun hn b off cap e hq => ?_)
  have hq' : q = b := hq
  subst hq'
  obtain ⟨a', cap', rfl, _, _, _, hel⟩ := h
  injection e with e1 _ _
  subst e1
  obtain ⟨b', off', e', _, vs', hv'⟩ := hel hn
  injection e' with e'
  injection e' with e1 e2
  subst e1 e2
  have c2 := (hv' 0 hn).2.1
  rw [cell_of_row w _ _ _ _ _ hb] at c2
  simp at c2
theorem DiskR.drew {w : World} {v : Value} {fs : List FileL} (h : DiskR w v fs) : DiskR w.drew v fs := h.below (Below.refl w.heap.size w).drew (Nat.le_refl _)
/-- The block of a result's cell, behind all that a call has done since. -/
theorem two_block1 {w w' : World} {v : Value} {t : TypeId} {o : Obj} (h : Below (w.heap.size + 2) ((w.alloc o).alloc (.cells #[v] t)) w') : w'.heap[w.heap.size + 1]? = some (.cells #[v] t (0, 0)) := by
  rw [h.block (w.heap.size + 1) (Nat.lt_succ_self _)]
  have := heap_alloc_new (w.alloc o) (.cells #[v] t)
  simpa using this
theorem two_frozen1 {w w' : World} {v : Value} {t : TypeId} {o : Obj} (h : Below (w.heap.size + 2) ((w.alloc o).alloc (.cells #[v] t)) w') : w'.frozen? ⟨w.heap.size + 1, 0, none⟩ = false :=
  (h.frozen (p := ⟨w.heap.size + 1, 0, none⟩) (Nat.lt_succ_self _)).trans (frozen_second _ _ _ _)
theorem heap_third (w : World) (o1 o2 : Obj) (v : Value) (t : TypeId) : (((w.alloc o1).alloc o2).alloc (.cells #[v] t)).heap[w.heap.size + 2]? = some (.cells #[v] t (0, 0)) := by
  have := heap_alloc_new ((w.alloc o1).alloc o2) (.cells #[v] t)
  simpa using this
theorem below_three {w w' : World} {o1 o2 o3 : Obj} (h : Below (w.heap.size + 3) (((w.alloc o1).alloc o2).alloc o3) w') : Below w.heap.size w w' :=
  (((below_alloc w o1).alloc (by simp) o2).alloc (by simp; omega) o3).trans (h.mono (by omega))
theorem below_four {w w' : World} {o1 o2 o3 o4 : Obj} (h : Below (w.heap.size + 4) ((((w.alloc o1).alloc o2).alloc o3).alloc o4) w') : Below w.heap.size w w' :=
  ((((below_alloc w o1).alloc (by simp) o2).alloc (by simp; omega) o3).alloc (by simp; omega) o4).trans (h.mono (by omega))
theorem cell_mid (w : World) (o1 o3 : Obj) (v : Value) (t : TypeId) : (((w.alloc o1).alloc (.cells #[v] t)).alloc o3).cell? ⟨w.heap.size + 1, 0, none⟩ = some v :=
  ((below_alloc ((w.alloc o1).alloc (.cells #[v] t)) o3).cell (p := ⟨w.heap.size + 1, 0, none⟩) (by simp)).trans (cell_second w o1 v t)
theorem cell_mid2 (w : World) (o1 o3 o4 : Obj) (v : Value) (t : TypeId) : ((((w.alloc o1).alloc (.cells #[v] t)).alloc o3).alloc o4).cell? ⟨w.heap.size + 1, 0, none⟩ = some v :=
  ((below_alloc (((w.alloc o1).alloc (.cells #[v] t)).alloc o3) o4).cell (p := ⟨w.heap.size + 1, 0, none⟩) (by simp)).trans (cell_mid w o1 o3 v t)
theorem cell_mid3 (w : World) (o1 o2 o4 : Obj) (v : Value) (t : TypeId) : ((((w.alloc o1).alloc o2).alloc (.cells #[v] t)).alloc o4).cell? ⟨w.heap.size + 2, 0, none⟩ = some v :=
  ((below_alloc (((w.alloc o1).alloc o2).alloc (.cells #[v] t)) o4).cell (p := ⟨w.heap.size + 2, 0, none⟩) (by simp)).trans (cell_third w o1 o2 v t)
theorem below_up (w : World) (o1 o2 o3 o4 : Obj) : Below w.heap.size w ((((w.alloc o1).alloc o2).alloc o3).alloc o4) :=
  (((below_alloc w o1).alloc (by simp) o2).alloc (by simp; omega) o3).alloc (by simp; omega) o4
theorem diskR_three {w : World} {v : Value} {fs : List FileL} (h : DiskR w v fs) (o1 o2 o3 : Obj) : DiskR (((w.alloc o1).alloc o2).alloc o3) v fs :=
  ((h.below (below_alloc _ o1) (Nat.le_refl _)).below (below_alloc _ o2) (Nat.le_refl _)).below (below_alloc _ o3) (Nat.le_refl _)
theorem diskR_four {w : World} {v : Value} {fs : List FileL} (h : DiskR w v fs) (o1 o2 o3 o4 : Obj) : DiskR ((((w.alloc o1).alloc o2).alloc o3).alloc o4) v fs := (diskR_three h o1 o2 o3).below (below_alloc _ o4) (Nat.le_refl _)
theorem heap_fourth (w : World) (o1 o2 o3 : Obj) (v : Value) (t : TypeId) : ((((w.alloc o1).alloc o2).alloc o3).alloc (.cells #[v] t)).heap[w.heap.size + 3]? = some (.cells #[v] t (0, 0)) := by
  have := heap_alloc_new (((w.alloc o1).alloc o2).alloc o3) (.cells #[v] t)
  simpa using this

/-- What a file's numbers must be. -/
def GoodF (f : FileL) : Prop := (∀ x ∈ f.data, 0 ≤ x ∧ x ≤ 255) ∧ -9223372036854775808 ≤ f.synced ∧ f.synced ≤ 9223372036854775807 ∧ f.name.size ≤ maxLen ∧ f.data.length ≤ 140737488351232
theorem good_nil : Good [] := fun i hi => by simp at hi
theorem good_ch {fs : List FileL} {g : List FileL × Int} (_hg : Good fs) (h : Good g.1) : Good (chF fs g).1 := by
  unfold chF
  split
  · exact h
  · exact good_nil
theorem good_set {fs : List FileL} {k : Nat} {f : FileL} (hg : Good fs) (hf : k < fs.length → GoodF f) : Good (fs.set k f) := fun i hi => by
  rw [List.length_set] at hi
  by_cases e : i = k
  · subst e; rw [getD_set_eq hi]; exact hf hi
  · rw [getD_set_ne e]; exact hg i hi
end Go.Proofs.YthakibcfmbkpkaaDoor
