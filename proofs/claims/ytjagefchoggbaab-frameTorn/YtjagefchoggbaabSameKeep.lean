/-
  Contracts of pacelinekeep's own sameBytes and picked.
-/
import Derived.Test.YtjagefchoggbaabSame
namespace Go.Proofs.Ytjagefchoggbaab
open Go.ChangeShapes Go.WideShapes Go.ChangeAt Go.RowKit

theorem ret_i64 {a b : Int} (h : a = b) : Ending.returned (.int .i64 a) = .returned (.int .i64 b) := by rw [h]

/-- The number that picked makes of n: from 0 to m - 1. -/
def pickF (n m : Int) : Int := (if n < 0 then -(n + 1) else n) % m

theorem pickF_bd (n m : Int) (hm : 0 < m) : 0 ≤ pickF n m ∧ pickF n m < m := ⟨Int.emod_nonneg _ (by omega), Int.emod_lt_of_pos _ hm⟩

set_option maxHeartbeats 400000 in
theorem picked_any (n m : Int) (w : World) (h0 : -9223372036854775808 ≤ n) (h1 : n ≤ 9223372036854775807) (hm : 0 < m) (hm1 : m ≤ 9223372036854775807) :
    Calls Try.prog 7 #[.int .i64 n, .int .i64 m] w fun e w' => e = .returned (.int .i64 (pickF n m)) ∧ w' = w := by
  by_cases h : n < 0
  · have HP : Hid (pickF n m = (-(n + 1)) % m) := by show pickF n m = _; unfold pickF; rw [if_pos h]
    have hz : (m == 0) = false := by simp; omega
    go_enter Try.func7, Try.ntmps7
    go_wp2
    go_ret
    exact ⟨ret_i64 (by rw [HP.out, ← Int.neg_tmod, Int.tmod_eq_emod_of_nonneg (by omega)]), rfl⟩
  · have HP : Hid (pickF n m = n % m) := by show pickF n m = _; unfold pickF; rw [if_neg h]
    have hz : (m == 0) = false := by simp; omega
    go_enter Try.func7, Try.ntmps7
    go_wp2
    go_ret
    exact ⟨ret_i64 (by rw [HP.out]), rfl⟩

set_option maxHeartbeats 400000 in
theorem sameBytesK_any (va vb : Value) (xs ys : List Int) (w : World) (ha : Reads .u8 w va xs) (hb : Reads .u8 w vb ys) (hx : ∀ x ∈ xs, 0 ≤ x ∧ x ≤ 255) (hy : ∀ x ∈ ys, 0 ≤ x ∧ x ≤ 255) :
    Calls Try.prog 9 #[va, vb] w fun e w' => e = .returned (.bool (decide (xs = ys))) ∧ w' = w := by
  have ca := ha.convert
  have cb := hb.convert
  clear ha hb
  go_enter Try.func9, Try.ntmps9
  go_wp2
  go_ret
  refine ⟨ret_bool ?_, rfl⟩
  have e := strOfNums_eq hx hy
  by_cases h : xs = ys
  · subst h; simp
  · have h2 : ¬ (strOfNums xs).toList = (strOfNums ys).toList := fun h3 => h (e.1 h3)
    simp [h, h2]
end Go.Proofs.Ytjagefchoggbaab
