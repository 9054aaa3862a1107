/-
  Contracts of varint.Zig and varint.Zag: for every argument of its kind the call returns the number that P1.3 and P1.4 tell, and the world is as it was.
-/
import Derived.Test.YtneapdndidglcabRows
import Derived.WalkKit
import Derived.ProofKit
import Derived.OpenShut
namespace Go.Proofs.Ytneapdndidglcab
open Go.ChangeShapes Go.WideShapes Go.ChangeAt Go.RowKit

theorem ret_bool {a b : Bool} (h : a = b) : Ending.returned (.bool a) = .returned (.bool b) := by rw [h]
theorem ret_int {k : IntKind} {a b : Int} (h : a = b) : Ending.returned (.int k a) = .returned (.int k b) := by rw [h]

def zigF (n : Int) : Int := if n < 0 then -2 * n - 1 else 2 * n
def zagF (u : Int) : Int := if u % 2 = 0 then u / 2 else -1 - u / 2

theorem zigF_bd (n : Int) (h0 : -9223372036854775808 ≤ n) (h1 : n ≤ 9223372036854775807) : 0 ≤ zigF n ∧ zigF n ≤ 18446744073709551615 := by
  unfold zigF; split <;> omega
theorem zagF_bd (u : Int) (h0 : 0 ≤ u) (h1 : u ≤ 18446744073709551615) : -9223372036854775808 ≤ zagF u ∧ zagF u ≤ 9223372036854775807 := by
  unfold zagF; split <;> omega
theorem zag_zig (n : Int) : zagF (zigF n) = n := by
  unfold zagF zigF; split <;> split <;> omega
theorem zig_zag (u : Int) (h : 0 ≤ u) : zigF (zagF u) = u := by
  unfold zagF zigF; split <;> split <;> omega
theorem zig_odd (n : Int) : (zigF n % 2 == 1) = decide (n < 0) := by
  unfold zigF; rw [Bool.eq_iff_iff]; simp; split <;> omega

set_option maxHeartbeats 400000 in
theorem zig_any (n : Int) (w : World) (h0 : -9223372036854775808 ≤ n) (h1 : n ≤ 9223372036854775807) :
    Calls Try.prog 13 #[.int .i64 n] w fun e w' => e = .returned (.int .u64 (zigF n)) ∧ w' = w := by
  by_cases h : n < 0
  · go_enter Try.func13, Try.ntmps13
    go_wp2
    go_ret
    exact ⟨ret_int (by unfold zigF; rw [if_pos h]; omega), rfl⟩
  · go_enter Try.func13, Try.ntmps13
    go_wp2
    go_ret
    exact ⟨ret_int (by unfold zigF; rw [if_neg (by omega)]), rfl⟩

set_option maxHeartbeats 400000 in
theorem zag_any (u : Int) (w : World) (h0 : 0 ≤ u) (h1 : u ≤ 18446744073709551615) :
    Calls Try.prog 14 #[.int .u64 u] w fun e w' => e = .returned (.int .i64 (zagF u)) ∧ w' = w := by
  by_cases h : u % 2 = 0
  · have h1 : (u % 2 == 1) = false := by simp; omega
    go_enter Try.func14, Try.ntmps14
    go_wp2
    go_ret
    exact ⟨ret_int (by unfold zagF; rw [if_pos (by omega)]), rfl⟩
  · have h1 : (u % 2 == 1) = true := by simp; omega
    go_enter Try.func14, Try.ntmps14
    go_wp2
    go_ret
    exact ⟨ret_int (by unfold zagF; rw [if_neg (by omega)]), rfl⟩
end Go.Proofs.Ytneapdndidglcab
