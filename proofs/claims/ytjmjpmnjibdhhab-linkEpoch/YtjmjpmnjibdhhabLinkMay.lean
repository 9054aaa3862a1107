/-
  Contracts of link's within, senderMayBe and dueCount.
-/
import Derived.Test.YtjmjpmnjibdhhabLinkMath
namespace Go.Proofs.Ytjmjpmnjibdhhab
set_option maxRecDepth 100000
open Go.ChangeShapes Go.WideShapes Go.ChangeAt Go.RowKit

set_option maxHeartbeats 400000 in
theorem within_any (n : Int) (w : World) : Calls Try.prog 14 #[.int .i64 n] w fun e w' => e = .returned (.bool (wi n)) ∧ w' = w := by
  unfold wi
  by_cases h0 : 0 ≤ n
  · by_cases h1 : n ≤ 1099511627776
    · have e1 : decide (n ≤ 1099511627776) = true := by simpa using h1
      have e0 : decide (0 ≤ n) = true := by simpa using h0
      rw [e0, e1]
      go_enter Try.func14, Try.ntmps14
      go_wp2
      go_ret
      exact ⟨rfl, rfl⟩
    · have e1 : decide (n ≤ 1099511627776) = false := by simpa using h1
      have e0 : decide (0 ≤ n) = true := by simpa using h0
      rw [e0, e1]
      go_enter Try.func14, Try.ntmps14
      go_wp2
      go_ret
      exact ⟨rfl, rfl⟩
  · have e0 : decide (0 ≤ n) = false := by simpa using h0
    rw [e0]
    go_enter Try.func14, Try.ntmps14
    go_wp2
    go_ret
    exact ⟨rfl, rfl⟩
theorem within_is {n : Int} {b : Bool} (h : wi n = b) (w : World) : Calls Try.prog 14 #[.int .i64 n] w fun e w' => e = .returned (.bool b) ∧ w' = w := by
  have := within_any n w
  rwa [h] at this

/-- Whether a sender may be; nothing that was there is changed. -/
def MayP (w : World) (b : Bool) (e : Ending) (w' : World) : Prop := e = .returned (.bool b) ∧ Below w.heap.size w w'

set_option maxHeartbeats 1000000 in
theorem senderMayBe_any (e b : Int) (a : Option Addr) (n c : Nat) (hn : n ≤ 140737488355328) (w : World) :
    Calls Try.prog 15 #[.agg #[.int .i64 e, .int .i64 b, .slice a n c]] w (MayP w (mayS e b n)) := by
  have HB : Hid (∀ o, Below w.heap.size w (w.alloc o)) := fun o => below_alloc w o
  have HE : Hid (∀ t w', t = mayS e b n → Below w.heap.size w w' → MayP w (mayS e b n) (.returned (.bool t)) w') := fun t w' h1 h2 => ⟨by rw [h1], h2⟩
  cases h1 : wi e
  · have HM : Hid (mayS e b n = false) := by show mayS e b n = _; simp [mayS, h1]
    have C1 := fun X => within_is h1 X
    generalize MayP w (mayS e b n) = P at *
    clear h1
    go_enter Try.func15, Try.ntmps15
    go_wp2_with fail
    refine (C1 _).mono ?_
    rintro e w1 ⟨rfl, rfl⟩
    go_wp2_with fail
    exact HE.out _ _ HM.out.symm (HB.out _)
  · have C1 := fun X => within_is h1 X
    cases h2 : wi b
    · have HM : Hid (mayS e b n = false) := by show mayS e b n = _; simp [mayS, h1, h2]
      have C2 := fun X => within_is h2 X
      generalize MayP w (mayS e b n) = P at *
      clear h1 h2
      go_enter Try.func15, Try.ntmps15
      go_wp2_with fail
      refine (C1 _).mono ?_
      rintro e w1 ⟨rfl, rfl⟩
      go_wp2_with fail
      refine (C2 _).mono ?_
      rintro e w1 ⟨rfl, rfl⟩
      go_wp2_with fail
      exact HE.out _ _ HM.out.symm (HB.out _)
    · have C2 := fun X => within_is h2 X
      have HM : Hid (mayS e b n = decide ((n : Int) ≤ 5000)) := by
        show mayS e b n = _
        simp only [mayS, h1, h2, Bool.and_self, Bool.true_and]
        exact decide_eq_decide.2 (by omega)
      generalize MayP w (mayS e b n) = P at *
      clear h1 h2
      go_enter Try.func15, Try.ntmps15
      go_wp2_with fail
      refine (C1 _).mono ?_
      rintro e w1 ⟨rfl, rfl⟩
      go_wp2_with fail
      refine (C2 _).mono ?_
      rintro e w1 ⟨rfl, rfl⟩
      go_wp2_with fail
      exact HE.out _ _ HM.out.symm (HB.out _)

set_option maxHeartbeats 1000000 in
theorem dueCount_any (e b : Int) (a : Option Addr) (n c : Nat) (hn : n ≤ 140737488355328) (w : World) :
    Calls Try.prog 17 #[.agg #[.int .i64 e, .int .i64 b, .slice a n c]] w fun e w' => e = .returned (.int .i64 ((min 4 n : Nat) : Int)) ∧ Below w.heap.size w w' := by
  have HB : Hid (∀ o, Below w.heap.size w (w.alloc o)) := fun o => below_alloc w o
  have HM : Hid (((min 4 n : Nat) : Int) = min (n : Int) 4) := by show ((min 4 n : Nat) : Int) = _; omega
  generalize ((min 4 n : Nat) : Int) = mm at *
  go_enter Try.func17, Try.ntmps17
  go_wp2_with fail
  go_ret
  exact ⟨ret_i64 (by rw [HM.out]), HB.out _⟩
end Go.Proofs.Ytjmjpmnjibdhhab
