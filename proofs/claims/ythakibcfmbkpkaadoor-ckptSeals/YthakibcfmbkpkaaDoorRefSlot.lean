/-
  Contract of the document's SlotName.
-/
import Derived.Test.YthakibcfmbkpkaaDoorSlotName
import Derived.Test.YthakibcfmbkpkaaDoorDecWalk
namespace Go.Proofs.YthakibcfmbkpkaaDoor
set_option maxRecDepth 100000
open Go.ChangeShapes Go.WideShapes Go.ChangeAt Go.RowKit

theorem dec0 (w : World) : Calls Tryd.prog 39 #[.int .i64 0] w fun e w' => e = .returned (.string ⟨#[48]⟩) ∧ Below w.heap.size w w' :=
  (dec_any 0 w (by omega)).mono fun e w' h => ⟨by rw [h.1, Lib.decDigits_one (by omega)]; rfl, h.2⟩
set_option maxHeartbeats 400000 in
theorem refSlot0 (w : World) : Calls Tryd.prog 22 #[.int .i64 0] w fun e w' => e = .returned (.string slot0) ∧ Below w.heap.size w w' := by
  go_enter Tryd.func22, Tryd.ntmps22
  go_wp2_with fail
  refine (dec0 _).mono ?_
  rintro e w1 ⟨rfl, hb⟩
  have HB : Hid (Below w.heap.size w w1) := hb
  clear hb
  go_wp2_with fail
  go_ret
  exact ⟨by rfl, HB.out⟩

theorem dec1 (w : World) : Calls Tryd.prog 39 #[.int .i64 1] w fun e w' => e = .returned (.string ⟨#[49]⟩) ∧ Below w.heap.size w w' :=
  (dec_any 1 w (by omega)).mono fun e w' h => ⟨by rw [h.1, Lib.decDigits_one (by omega)]; rfl, h.2⟩
set_option maxHeartbeats 400000 in
theorem refSlot1 (w : World) : Calls Tryd.prog 22 #[.int .i64 1] w fun e w' => e = .returned (.string slot1) ∧ Below w.heap.size w w' := by
  go_enter Tryd.func22, Tryd.ntmps22
  go_wp2_with fail
  refine (dec1 _).mono ?_
  rintro e w1 ⟨rfl, hb⟩
  have HB : Hid (Below w.heap.size w w1) := hb
  clear hb
  go_wp2_with fail
  go_ret
  exact ⟨by rfl, HB.out⟩
theorem refSlot_yes (n : Int) (h : 0 ≤ n ∧ n ≤ 1) (w : World) : Calls Tryd.prog 22 #[.int .i64 n] w fun e w' => e = .returned (.string (slotB n)) ∧ Below w.heap.size w w' := by
  by_cases h0 : n = 0
  · subst h0
    exact refSlot0 w
  · have h1 : n = 1 := by omega
    subst h1
    exact refSlot1 w
end Go.Proofs.YthakibcfmbkpkaaDoor
