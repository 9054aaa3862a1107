/-
  Contracts of the law's own helpers: sameBytes, sameDisk (of disks that read alike), octets, disks.
-/
import Derived.Test.YtdhaccljidhdcabCopyWalk
namespace Go.Proofs.Ytdhaccljidhdcab
open Go.ChangeShapes Go.WideShapes Go.ChangeAt Go.RowKit

set_option maxHeartbeats 400000 in
theorem sameBytes_any (va vb : Value) (xs ys : List Int) (w : World) (ha : Reads .u8 w va xs) (hb : Reads .u8 w vb ys) (hx : ∀ x ∈ xs, 0 ≤ x ∧ x ≤ 255) (hy : ∀ x ∈ ys, 0 ≤ x ∧ x ≤ 255) :
    Calls Try.prog 13 #[va, vb] w fun e w' => e = .returned (.bool (decide (xs = ys))) ∧ w' = w := by
  have ca := ha.convert
  have cb := hb.convert
  clear ha hb
  go_enter Try.func13, Try.ntmps13
  go_wp2
  go_ret
  refine ⟨ret_bool ?_, rfl⟩
  have e := strOfNums_eq hx hy
  by_cases h : xs = ys
  · subst h; simp
  · have h2 : ¬ (strOfNums xs).toList = (strOfNums ys).toList := fun h3 => h (e.1 h3)
    simp [h, h2]
theorem sameBytes_yes (va vb : Value) (xs : List Int) (w : World) (ha : Reads .u8 w va xs) (hb : Reads .u8 w vb xs) (hx : ∀ x ∈ xs, 0 ≤ x ∧ x ≤ 255) :
    Calls Try.prog 13 #[va, vb] w fun e w' => e = .returned (.bool true) ∧ w' = w :=
  (sameBytes_any va vb xs xs w ha hb hx hx).mono fun e w' h => ⟨by rw [h.1]; simp, h.2⟩

theorem two_cell0 {w w' : World} {v : Value} {t : TypeId} {o : Obj} (h : Below (w.heap.size + 2) ((w.alloc (.cells #[v] t)).alloc o) w') : w'.cell? ⟨w.heap.size, 0, none⟩ = some v :=
  (h.cell (p := ⟨w.heap.size, 0, none⟩) (by simp)).trans (((below_alloc (w.alloc (.cells #[v] t)) o).cell (p := ⟨w.heap.size, 0, none⟩) (by simp)).trans (cell_new0 w v t))
theorem two_cell1 {w w' : World} {v : Value} {t : TypeId} {o : Obj} (h : Below (w.heap.size + 2) ((w.alloc o).alloc (.cells #[v] t)) w') : w'.cell? ⟨w.heap.size + 1, 0, none⟩ = some v :=
  (h.cell (p := ⟨w.heap.size + 1, 0, none⟩) (Nat.lt_succ_self _)).trans (cell_second w o v t)

end Go.Proofs.Ytdhaccljidhdcab
