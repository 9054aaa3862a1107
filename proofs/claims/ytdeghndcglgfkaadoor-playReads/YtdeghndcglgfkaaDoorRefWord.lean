/-
  Contracts of the document's own MoveWord, MoveLine and MovesShown (P17.1 to P17.3).
-/
import Derived.Test.YtdeghndcglgfkaaDoorPlayShow
import Derived.Test.YtdeghndcglgfkaaDoorDecWalk
import Derived.Test.YtdeghndcglgfkaaDoorInWalk
namespace Go.Proofs.YtdeghndcglgfkaaDoor
set_option maxRecDepth 100000
open Go.ChangeShapes Go.WideShapes Go.ChangeAt Go.RowKit

/-- What MoveWord answers. -/
def wrdO : Option Fm → Value
  | some f => .tuple #[.string ⟨f.2.1.toArray⟩, .bool (decide (1 ≤ f.2.2)), .bool (decide (2 ≤ f.2.2))]
  | none => .tuple #[.string ⟨#[]⟩, .bool false, .bool false]
theorem dec_int (n : Int) (h0 : 0 ≤ n) (h1 : n ≤ 9223372036854775807) (w : World) :
    Calls Tryd.prog 27 #[.int .i64 n] w fun e w' => e = .returned (.string ⟨(Lib.itoa n).toArray⟩) ∧ Below w.heap.size w w' := by
  obtain ⟨m, rfl⟩ : ∃ m : Nat, n = m := ⟨n.toNat, by omega⟩
  rw [Lib.itoa_nonneg]
  exact dec_any m w (by omega)

set_option maxHeartbeats 4000000 in
theorem moveWord_any (k : Int) (w : World) :
    Calls Tryd.prog 25 #[.int .i64 k] w fun e w' => e = .returned (wrdO (findK k)) ∧ w' = w := by
  by_cases h1 : k = 1
  · subst h1
    have e : wrdO (findK 1) = .tuple #[.string ⟨#[119, 111, 114, 107]⟩, .bool true, .bool false] := rfl
    rw [e]
    go_enter Tryd.func25, Tryd.ntmps25
    go_wp2
    go_ret3
    exact ⟨rfl, rfl⟩
  by_cases h2 : k = 2
  · subst h2
    have e : wrdO (findK 2) = .tuple #[.string ⟨#[99, 97, 114, 114, 121]⟩, .bool true, .bool false] := rfl
    rw [e]
    go_enter Tryd.func25, Tryd.ntmps25
    go_wp2
    go_ret3
    exact ⟨rfl, rfl⟩
  by_cases h3 : k = 3
  · subst h3
    have e : wrdO (findK 3) = .tuple #[.string ⟨#[108, 111, 115, 101]⟩, .bool true, .bool false] := rfl
    rw [e]
    go_enter Tryd.func25, Tryd.ntmps25
    go_wp2
    go_ret3
    exact ⟨rfl, rfl⟩
  by_cases h4 : k = 4
  · subst h4
    have e : wrdO (findK 4) = .tuple #[.string ⟨#[100, 111, 117, 98, 108, 101]⟩, .bool true, .bool false] := rfl
    rw [e]
    go_enter Tryd.func25, Tryd.ntmps25
    go_wp2
    go_ret3
    exact ⟨rfl, rfl⟩
  by_cases h5 : k = 5
  · subst h5
    have e : wrdO (findK 5) = .tuple #[.string ⟨#[97, 108, 108]⟩, .bool false, .bool false] := rfl
    rw [e]
    go_enter Tryd.func25, Tryd.ntmps25
    go_wp2
    go_ret3
    exact ⟨rfl, rfl⟩
  by_cases h6 : k = 6
  · subst h6
    have e : wrdO (findK 6) = .tuple #[.string ⟨#[99, 114, 97, 115, 104]⟩, .bool true, .bool true] := rfl
    rw [e]
    go_enter Tryd.func25, Tryd.ntmps25
    go_wp2
    go_ret3
    exact ⟨rfl, rfl⟩
  by_cases h7 : k = 7
  · subst h7
    have e : wrdO (findK 7) = .tuple #[.string ⟨#[115, 116, 97, 114, 116]⟩, .bool true, .bool false] := rfl
    rw [e]
    go_enter Tryd.func25, Tryd.ntmps25
    go_wp2
    go_ret3
    exact ⟨rfl, rfl⟩
  by_cases h8 : k = 8
  · subst h8
    have e : wrdO (findK 8) = .tuple #[.string ⟨#[108, 101, 97, 100]⟩, .bool false, .bool false] := rfl
    rw [e]
    go_enter Tryd.func25, Tryd.ntmps25
    go_wp2
    go_ret3
    exact ⟨rfl, rfl⟩
  have e : wrdO (findK k) = .tuple #[.string ⟨#[]⟩, .bool false, .bool false] := by
    have : findK k = none := by
      unfold findK
      rw [List.find?_eq_none]
      intro f hf
      simp only [formsL, List.mem_cons, List.mem_nil_iff, or_false] at hf
      rcases hf with rfl | rfl | rfl | rfl | rfl | rfl | rfl | rfl <;> simp <;> omega
    rw [this]; rfl
  rw [e]
  have g1 : (k == 1) = false := by simpa using h1
  have g2 : (k == 2) = false := by simpa using h2
  have g3 : (k == 3) = false := by simpa using h3
  have g4 : (k == 4) = false := by simpa using h4
  have g5 : (k == 5) = false := by simpa using h5
  have g6 : (k == 6) = false := by simpa using h6
  have g7 : (k == 7) = false := by simpa using h7
  have g8 : (k == 8) = false := by simpa using h8
  go_enter Tryd.func25, Tryd.ntmps25
  go_wp2
  go_ret3
  exact ⟨rfl, rfl⟩
end Go.Proofs.YtdeghndcglgfkaaDoor
