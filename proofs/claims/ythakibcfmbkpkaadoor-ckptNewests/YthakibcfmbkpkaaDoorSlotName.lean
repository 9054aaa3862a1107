/-
  Contract of ckpt.slotName: the names of the two slots, and an error for other numbers (strconv.Itoa walked at 0 and 1).
-/
import Derived.Test.YthakibcfmbkpkaaDoorRowBase
namespace Go.Proofs.YthakibcfmbkpkaaDoor
set_option maxRecDepth 100000
open Go.ChangeShapes Go.WideShapes Go.ChangeAt Go.RowKit

/-- The slots' names. -/
def slot0 : ByteArray := ⟨#[115, 97, 118, 101, 45, 48]⟩
def slot1 : ByteArray := ⟨#[115, 97, 118, 101, 45, 49]⟩
def slotB (n : Int) : ByteArray := if n = 0 then slot0 else slot1
theorem slotB_size (n : Int) : (slotB n).size = 6 := by
  unfold slotB
  split <;> rfl

set_option maxHeartbeats 400000 in
theorem small0 (w : World) : Calls Tryd.prog 84 #[.int .i64 0] w fun e w' => e = .returned (.string ⟨#[48]⟩) ∧ w' = w := by
  go_enter Tryd.func84, Tryd.ntmps84
  go_wp2_with fail
  go_ret
  exact ⟨rfl, rfl⟩
set_option maxHeartbeats 400000 in
set_option maxRecDepth 100000 in
theorem format0 (w : World) : Calls Tryd.prog 69 #[.int .i64 0, .int .i64 10] w fun e w' => e = .returned (.string ⟨#[48]⟩) ∧ w' = w := by
  go_enter Tryd.func69, Tryd.ntmps69
  go_wp2_with fail
  refine (small0 _).mono ?_
  rintro e w1 ⟨rfl, e1⟩
  have e1' : w = w1 := e1.symm
  subst e1'
  clear e1
  go_wp2_with fail
  go_ret
  exact ⟨rfl, rfl⟩
set_option maxHeartbeats 400000 in
theorem itoaIn0 (w : World) : Calls Tryd.prog 50 #[.int .i64 0] w fun e w' => e = .returned (.string ⟨#[48]⟩) ∧ w' = w := by
  go_enter Tryd.func50, Tryd.ntmps50
  go_wp2_with fail
  refine (format0 _).mono ?_
  rintro e w1 ⟨rfl, e1⟩
  have e1' : w = w1 := e1.symm
  subst e1'
  clear e1
  go_wp2_with fail
  go_ret
  exact ⟨rfl, rfl⟩
set_option maxHeartbeats 400000 in
theorem itoa0 (w : World) : Calls Tryd.prog 32 #[.int .i64 0] w fun e w' => e = .returned (.string ⟨#[48]⟩) ∧ w' = w := by
  go_enter Tryd.func32, Tryd.ntmps32
  go_wp2_with fail
  refine (itoaIn0 _).mono ?_
  rintro e w1 ⟨rfl, e1⟩
  have e1' : w = w1 := e1.symm
  subst e1'
  clear e1
  go_wp2_with fail
  go_ret
  exact ⟨rfl, rfl⟩
set_option maxHeartbeats 400000 in
theorem slotName0 (w : World) : Calls Tryd.prog 16 #[.int .i64 0] w fun e w' => e = .returned (.tuple #[.string slot0, .int .i64 0]) ∧ w' = w := by
  go_enter Tryd.func16, Tryd.ntmps16
  go_wp2_with fail
  refine (itoa0 _).mono ?_
  rintro e w1 ⟨rfl, e1⟩
  have e1' : w = w1 := e1.symm
  subst e1'
  clear e1
  go_wp2_with fail
  refine bodyPost_ret (v := .tuple #[.string slot0, .int .i64 0]) ?_ rfl ⟨rfl, rfl⟩
  simp [results, Tryd.results16, go_sem]
  rfl

set_option maxHeartbeats 400000 in
theorem small1 (w : World) : Calls Tryd.prog 84 #[.int .i64 1] w fun e w' => e = .returned (.string ⟨#[49]⟩) ∧ w' = w := by
  go_enter Tryd.func84, Tryd.ntmps84
  go_wp2_with fail
  go_ret
  exact ⟨rfl, rfl⟩
set_option maxHeartbeats 400000 in
set_option maxRecDepth 100000 in
theorem format1 (w : World) : Calls Tryd.prog 69 #[.int .i64 1, .int .i64 10] w fun e w' => e = .returned (.string ⟨#[49]⟩) ∧ w' = w := by
  go_enter Tryd.func69, Tryd.ntmps69
  go_wp2_with fail
  refine (small1 _).mono ?_
  rintro e w1 ⟨rfl, e1⟩
  have e1' : w = w1 := e1.symm
  subst e1'
  clear e1
  go_wp2_with fail
  go_ret
  exact ⟨rfl, rfl⟩
set_option maxHeartbeats 400000 in
theorem itoaIn1 (w : World) : Calls Tryd.prog 50 #[.int .i64 1] w fun e w' => e = .returned (.string ⟨#[49]⟩) ∧ w' = w := by
  go_enter Tryd.func50, Tryd.ntmps50
  go_wp2_with fail
  refine (format1 _).mono ?_
  rintro e w1 ⟨rfl, e1⟩
  have e1' : w = w1 := e1.symm
  subst e1'
  clear e1
  go_wp2_with fail
  go_ret
  exact ⟨rfl, rfl⟩
set_option maxHeartbeats 400000 in
theorem itoa1 (w : World) : Calls Tryd.prog 32 #[.int .i64 1] w fun e w' => e = .returned (.string ⟨#[49]⟩) ∧ w' = w := by
  go_enter Tryd.func32, Tryd.ntmps32
  go_wp2_with fail
  refine (itoaIn1 _).mono ?_
  rintro e w1 ⟨rfl, e1⟩
  have e1' : w = w1 := e1.symm
  subst e1'
  clear e1
  go_wp2_with fail
  go_ret
  exact ⟨rfl, rfl⟩
set_option maxHeartbeats 400000 in
theorem slotName1 (w : World) : Calls Tryd.prog 16 #[.int .i64 1] w fun e w' => e = .returned (.tuple #[.string slot1, .int .i64 0]) ∧ w' = w := by
  go_enter Tryd.func16, Tryd.ntmps16
  go_wp2_with fail
  refine (itoa1 _).mono ?_
  rintro e w1 ⟨rfl, e1⟩
  have e1' : w = w1 := e1.symm
  subst e1'
  clear e1
  go_wp2_with fail
  refine bodyPost_ret (v := .tuple #[.string slot1, .int .i64 0]) ?_ rfl ⟨rfl, rfl⟩
  simp [results, Tryd.results16, go_sem]
  rfl

set_option maxHeartbeats 400000 in
theorem slotName_no (n : Int) (h : ¬ (0 ≤ n ∧ n ≤ 1)) (w : World) : Calls Tryd.prog 16 #[.int .i64 n] w fun e w' => e = .returned (.tuple #[.string ByteArray.empty, .int .i64 2]) ∧ w' = w := by
  by_cases h0 : n < 0
  · go_enter Tryd.func16, Tryd.ntmps16
    go_wp2_with fail
    exact bodyPost_ret (v := .tuple #[.string ByteArray.empty, .int .i64 2]) (by simp [results, Tryd.results16, go_sem]; rfl) rfl ⟨rfl, rfl⟩
  · have h1 : 2 ≤ n := by omega
    go_enter Tryd.func16, Tryd.ntmps16
    go_wp2_with fail
    exact bodyPost_ret (v := .tuple #[.string ByteArray.empty, .int .i64 2]) (by simp [results, Tryd.results16, go_sem]; rfl) rfl ⟨rfl, rfl⟩
theorem slotName_yes (n : Int) (h : 0 ≤ n ∧ n ≤ 1) (w : World) : Calls Tryd.prog 16 #[.int .i64 n] w fun e w' => e = .returned (.tuple #[.string (slotB n), .int .i64 0]) ∧ w' = w := by
  by_cases h0 : n = 0
  · subst h0
    exact slotName0 w
  · have h1 : n = 1 := by omega
    subst h1
    exact slotName1 w
end Go.Proofs.YthakibcfmbkpkaaDoor
