/-
  Contract of owner.check.
-/
import Derived.Test.YtacpicnihgggaaaOwnerMath
namespace Go.Proofs.Ytacpicnihgggaaa
set_option maxRecDepth 100000
open Go.ChangeShapes Go.WideShapes Go.ChangeAt Go.RowKit

set_option maxHeartbeats 400000 in
theorem ownCheck_any (i many n k : Int) (w : World) :
    Calls Try.prog 45 #[.int .i64 i, .int .i64 many, .int .i64 n, .int .i64 k] w fun e w' => e = .returned (.int .i64 (errO i many n k)) ∧ w' = w := by
  by_cases h1 : n < 0
  · rw [errO_size (by omega)]
    go_enter Try.func45, Try.ntmps45
    go_wp2
    go_ret
    exact ⟨rfl, rfl⟩
  · by_cases h2 : 200 < n
    · rw [errO_size (by omega)]
      go_enter Try.func45, Try.ntmps45
      go_wp2
      go_ret
      exact ⟨rfl, rfl⟩
    · by_cases h3 : k < 1
      · rw [errO_size (by omega)]
        go_enter Try.func45, Try.ntmps45
        go_wp2
        go_ret
        exact ⟨rfl, rfl⟩
      · by_cases h4 : 8 < k
        · rw [errO_size (by omega)]
          go_enter Try.func45, Try.ntmps45
          go_wp2
          go_ret
          exact ⟨rfl, rfl⟩
        · by_cases h5 : i < 0
          · rw [errO_range (by omega) (by omega)]
            go_enter Try.func45, Try.ntmps45
            go_wp2
            go_ret
            exact ⟨rfl, rfl⟩
          · by_cases h6 : many ≤ i
            · rw [errO_range (by omega) (by omega)]
              go_enter Try.func45, Try.ntmps45
              go_wp2
              go_ret
              exact ⟨rfl, rfl⟩
            · rw [errO_ok (by omega) (by omega)]
              go_enter Try.func45, Try.ntmps45
              go_wp2
              go_ret
              exact ⟨rfl, rfl⟩

end Go.Proofs.Ytacpicnihgggaaa
