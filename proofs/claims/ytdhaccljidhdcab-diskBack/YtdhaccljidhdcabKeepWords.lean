/-
  Contracts of pacelinekeep's own picked and name.
-/
import Derived.Test.YtdhaccljidhdcabKeepMath
import Derived.Test.YtdhaccljidhdcabSomeB
import Derived.Test.YtdhaccljidhdcabLawSame
namespace Go.Proofs.Ytdhaccljidhdcab
open Go.ChangeShapes Go.WideShapes Go.ChangeAt Go.RowKit

/-- The number that picked makes of n: from 0 to m - 1. -/
def pickF (n m : Int) : Int := (if n < 0 then -(n + 1) else n) % m

theorem pickF_bd (n m : Int) (hm : 0 < m) : 0 ≤ pickF n m ∧ pickF n m < m := ⟨Int.emod_nonneg _ (by omega), Int.emod_lt_of_pos _ hm⟩

set_option maxHeartbeats 400000 in
theorem picked_any (n m : Int) (w : World) (h0 : -9223372036854775808 ≤ n) (h1 : n ≤ 9223372036854775807) (hm : 0 < m) (hm1 : m ≤ 9223372036854775807) :
    Calls Try.prog 15 #[.int .i64 n, .int .i64 m] w fun e w' => e = .returned (.int .i64 (pickF n m)) ∧ w' = w := by
  by_cases h : n < 0
  · have HP : Hid (pickF n m = (-(n + 1)) % m) := by show pickF n m = _; unfold pickF; rw [if_pos h]
    have hz : (m == 0) = false := by simp; omega
    go_enter Try.func15, Try.ntmps15
    go_wp2
    go_ret
    exact ⟨ret_i64 (by rw [HP.out, ← Int.neg_tmod, Int.tmod_eq_emod_of_nonneg (by omega)]), rfl⟩
  · have HP : Hid (pickF n m = n % m) := by show pickF n m = _; unfold pickF; rw [if_neg h]
    have hz : (m == 0) = false := by simp; omega
    go_enter Try.func15, Try.ntmps15
    go_wp2
    go_ret
    exact ⟨ret_i64 (by rw [HP.out]), rfl⟩

/-- The name of a raw number. -/
def nmF (n : Int) : ByteArray := strOfNums [97 + pickF n 4]
theorem nmF_size (n : Int) : (nmF n).size = 1 := by rw [nmF, strOfNums_size]; rfl
theorem nmF_ok (n : Int) : nmB (nmF n) = true := by simp [nmB, nmF_size]
theorem nmF_max (n : Int) : (nmF n).size ≤ maxLen := by rw [nmF_size]; simp [maxLen]

set_option maxHeartbeats 400000 in
theorem name_any (n : Int) (w : World) (h0 : -9223372036854775808 ≤ n) (h1 : n ≤ 9223372036854775807) :
    Calls Try.prog 11 #[.int .i64 n] w fun e w' => e = .returned (.string (nmF n)) ∧ Below w.heap.size w w' := by
  have HN : Hid (nmF n = strOfNums [97 + pickF n 4]) := rfl
  go_enter Try.func11, Try.ntmps11
  go_wp2_with fail
  refine (picked_any n 4 _ h0 h1 (by omega) (by omega)).mono ?_
  rintro e w1 ⟨rfl, rfl⟩
  have hb := pickF_bd n 4 (by omega)
  generalize pickF n 4 = p at *
  have hw : IntKind.u8.wrap (97 + p) = 97 + p := by rw [IntKind.wrap_u8']; omega
  have cv : ∀ X, ((w1.alloc (.cells #[.int .u8 (97 + p)] X))).heap[w1.heap.size]? = some (.cells (([97 + p] : List Int).map (Value.int .u8)).toArray X (0, 0)) := fun X => heap_alloc_new _ _
  have cw : (convert 23 9 (.slice (some ⟨w1.heap.size, 0, none⟩) 1 1)).run Try.prog (w1.alloc (.cells #[.int .u8 (97 + p)] 5)) = .ok (.string (strOfNums [97 + p])) (w1.alloc (.cells #[.int .u8 (97 + p)] 5)) := (reads_block (xs := [97 + p]) (cv 5) (by simp [maxLen])).convert
  clear cv
  go_wp2_with fail
  go_ret
  exact ⟨by rw [HN.out]; rfl, below_alloc _ _⟩
end Go.Proofs.Ytdhaccljidhdcab
