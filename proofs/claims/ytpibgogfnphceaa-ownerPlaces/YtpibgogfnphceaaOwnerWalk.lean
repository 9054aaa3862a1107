/-
  Contracts of owner.check, owner.Of and owner.Place.
-/
import Derived.Test.YtpibgogfnphceaaOwnerMath
namespace Go.Proofs.Ytpibgogfnphceaa
open Go.ChangeShapes Go.WideShapes Go.ChangeAt Go.RowKit

set_option maxHeartbeats 400000 in
theorem ownCheck_any (i many n k : Int) (w : World) :
    Calls Try.prog 16 #[.int .i64 i, .int .i64 many, .int .i64 n, .int .i64 k] w fun e w' => e = .returned (.int .i64 (errO i many n k)) ∧ w' = w := by
  by_cases h1 : n < 0
  · rw [errO_size (by omega)]
    go_enter Try.func16, Try.ntmps16
    go_wp2
    go_ret
    exact ⟨rfl, rfl⟩
  · by_cases h2 : 200 < n
    · rw [errO_size (by omega)]
      go_enter Try.func16, Try.ntmps16
      go_wp2
      go_ret
      exact ⟨rfl, rfl⟩
    · by_cases h3 : k < 1
      · rw [errO_size (by omega)]
        go_enter Try.func16, Try.ntmps16
        go_wp2
        go_ret
        exact ⟨rfl, rfl⟩
      · by_cases h4 : 8 < k
        · rw [errO_size (by omega)]
          go_enter Try.func16, Try.ntmps16
          go_wp2
          go_ret
          exact ⟨rfl, rfl⟩
        · by_cases h5 : i < 0
          · rw [errO_range (by omega) (by omega)]
            go_enter Try.func16, Try.ntmps16
            go_wp2
            go_ret
            exact ⟨rfl, rfl⟩
          · by_cases h6 : many ≤ i
            · rw [errO_range (by omega) (by omega)]
              go_enter Try.func16, Try.ntmps16
              go_wp2
              go_ret
              exact ⟨rfl, rfl⟩
            · rw [errO_ok (by omega) (by omega)]
              go_enter Try.func16, Try.ntmps16
              go_wp2
              go_ret
              exact ⟨rfl, rfl⟩

set_option maxHeartbeats 400000 in
theorem of_any (v n k : Int) (w : World) :
    Calls Try.prog 8 #[.int .i64 v, .int .i64 n, .int .i64 k] w fun e w' => e = .returned (.tuple #[.int .i64 (okN (errO v n n k) (v % k)), .int .i64 (errO v n n k)]) ∧ w' = w := by
  have HC : Hid (∀ X, Calls Try.prog 16 #[.int .i64 v, .int .i64 n, .int .i64 n, .int .i64 k] X fun e w' => e = .returned (.int .i64 (errO v n n k)) ∧ w' = X) := fun X => ownCheck_any v n n k X
  by_cases hf : errO v n n k = 0
  · have hi := errO_inv hf
    rw [hf] at HC ⊢
    rw [okN_yes]
    have hz : (k == 0) = false := by simp; omega
    clear hf
    go_enter Try.func8, Try.ntmps8
    go_wp2_with fail
    refine (HC.out _).mono ?_
    rintro e w1 ⟨rfl, rfl⟩
    go_wp2_with fail
    go_ret2
    exact ⟨rfl, rfl⟩
  · have hne : (errO v n n k != 0) = true := by simpa using hf
    rw [okN_no hf]
    generalize errO v n n k = fe at *
    clear hf
    go_enter Try.func8, Try.ntmps8
    go_wp2_with fail
    refine (HC.out _).mono ?_
    rintro e w1 ⟨rfl, rfl⟩
    go_wp2_with fail
    go_ret2
    exact ⟨rfl, rfl⟩

set_option maxHeartbeats 400000 in
theorem place_any (v n k : Int) (w : World) :
    Calls Try.prog 13 #[.int .i64 v, .int .i64 n, .int .i64 k] w fun e w' => e = .returned (.tuple #[.int .i64 (okN (errO v n n k) (v / k)), .int .i64 (errO v n n k)]) ∧ w' = w := by
  have HC : Hid (∀ X, Calls Try.prog 16 #[.int .i64 v, .int .i64 n, .int .i64 n, .int .i64 k] X fun e w' => e = .returned (.int .i64 (errO v n n k)) ∧ w' = X) := fun X => ownCheck_any v n n k X
  by_cases hf : errO v n n k = 0
  · have hi := errO_inv hf
    rw [hf] at HC ⊢
    rw [okN_yes]
    have hz : (k == 0) = false := by simp; omega
    clear hf
    go_enter Try.func13, Try.ntmps13
    go_wp2_with fail
    refine (HC.out _).mono ?_
    rintro e w1 ⟨rfl, rfl⟩
    go_wp2_with fail
    go_ret2
    exact ⟨rfl, rfl⟩
  · have hne : (errO v n n k != 0) = true := by simpa using hf
    rw [okN_no hf]
    generalize errO v n n k = fe at *
    clear hf
    go_enter Try.func13, Try.ntmps13
    go_wp2_with fail
    refine (HC.out _).mono ?_
    rintro e w1 ⟨rfl, rfl⟩
    go_wp2_with fail
    go_ret2
    exact ⟨rfl, rfl⟩
end Go.Proofs.Ytpibgogfnphceaa
