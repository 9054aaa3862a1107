/-
  Contracts of prog's within, isVertex, jobOf; greatest, say and ways of its jobs.
-/
import Derived.Test.YtinijeejfnehmaaProgMath
import Derived.Test.YtinijeejfnehmaaBoxMem
import Derived.Deep.QuietTactic
import Derived.BigQuiet
namespace Go.Proofs.Ytinijeejfnehmaa
set_option maxRecDepth 100000
open Go.ChangeShapes Go.WideShapes Go.ChangeAt Go.RowKit

/-- The job as an interface value. -/
def Jb.v (j : Jb) : Value :=
  if j.1 then .iface 87 (.agg #[.bool j.2]) else if j.2 then .iface 85 (.agg #[]) else .iface 84 (.agg #[])
set_option maxHeartbeats 400000 in
theorem pwithin_any (v a b : Int) (w : World) :
    Calls Try.prog 58 #[.int .i64 v, .int .i64 a, .int .i64 b] w fun e w' => e = .returned (.bool (inB v a b)) ∧ w' = w := by
  unfold inB
  by_cases h0 : a ≤ v
  · have e0 : decide (a ≤ v) = true := by simpa using h0
    rw [e0]
    by_cases h1 : v ≤ b
    · have e1 : decide (v ≤ b) = true := by simpa using h1
      rw [e1]
      go_enter Try.func58, Try.ntmps58
      go_wp2
      go_ret
      exact ⟨rfl, rfl⟩
    · have e1 : decide (v ≤ b) = false := by simpa using h1
      rw [e1]
      go_enter Try.func58, Try.ntmps58
      go_wp2
      go_ret
      exact ⟨rfl, rfl⟩
  · have e0 : decide (a ≤ v) = false := by simpa using h0
    rw [e0]
    go_enter Try.func58, Try.ntmps58
    go_wp2
    go_ret
    exact ⟨rfl, rfl⟩
theorem pwithin_is {v a b : Int} {t : Bool} (h : inB v a b = t) (w : World) :
    Calls Try.prog 58 #[.int .i64 v, .int .i64 a, .int .i64 b] w fun e w' => e = .returned (.bool t) ∧ w' = w := by
  have := pwithin_any v a b w
  rwa [h] at this
set_option maxHeartbeats 400000 in
theorem isVertex_any (v : Int) (w : World) : Calls Try.prog 64 #[.int .i64 v] w fun e w' => e = .returned (.bool (inB v 0 199)) ∧ w' = w := by
  have C := fun X => pwithin_any v 0 199 X
  generalize inB v 0 199 = t at *
  go_enter Try.func64, Try.ntmps64
  go_wp2_with fail
  refine (C _).mono ?_
  rintro e w1 ⟨rfl, hw⟩
  replace hw := hw.symm
  subst hw
  go_wp2_with fail
  go_ret
  exact ⟨rfl, rfl⟩

set_option maxHeartbeats 1000000 in
theorem jobOf_none {k p : Int} (h : ¬ (k = 1 ∧ p = 0) ∧ ¬ (k = 2 ∧ p = 0) ∧ ¬ (k = 3 ∧ p = 0) ∧ ¬ (k = 3 ∧ p = 1)) (w : World) :
    Calls Try.prog 35 #[.int .i64 k, .int .i64 p] w fun e w' => e = .returned (.tuple #[.nilIface, .int .i64 3]) ∧ w' = w := by
  obtain ⟨h1, h2, h3, h4⟩ := h
  by_cases e1 : k = 1
  · subst e1
    have p0 : (p == 0) = false := by simpa using fun e => h1 ⟨rfl, e⟩
    clear h1 h2 h3 h4
    go_enter Try.func35, Try.ntmps35
    go_wp2
    go_ret2
    exact ⟨rfl, rfl⟩
  · by_cases e2 : k = 2
    · subst e2
      have p0 : (p == 0) = false := by simpa using fun e => h2 ⟨rfl, e⟩
      clear h1 h2 h3 h4
      go_enter Try.func35, Try.ntmps35
      go_wp2
      go_ret2
      exact ⟨rfl, rfl⟩
    · by_cases e3 : k = 3
      · subst e3
        have p0 : (p == 0) = false := by simpa using fun e => h3 ⟨rfl, e⟩
        have p1 : (p == 1) = false := by simpa using fun e => h4 ⟨rfl, e⟩
        clear h1 h2 h3 h4 e1 e2
        go_enter Try.func35, Try.ntmps35
        go_wp2
        go_ret2
        exact ⟨rfl, rfl⟩
      · have k1 : (k == 1) = false := by simpa using e1
        have k2 : (k == 2) = false := by simpa using e2
        have k3 : (k == 3) = false := by simpa using e3
        clear h1 h2 h3 h4 e1 e2 e3
        go_enter Try.func35, Try.ntmps35
        go_wp2
        go_ret2
        exact ⟨rfl, rfl⟩
set_option maxHeartbeats 1000000 in
theorem jobOf_any (j : Jb) (w : World) :
    Calls Try.prog 35 #[.int .i64 (Jb.k j), .int .i64 (Jb.p j)] w fun e w' => e = .returned (.tuple #[Jb.v j, .int .i64 0]) ∧ w' = w := by
  revert j
  refine jb_cases ?_ ?_ ?_ ?_
  all_goals simp only [Jb.k, Jb.p, Jb.v, Bool.and_true, Bool.and_false, Bool.and_self, if_true, Bool.false_eq_true, if_false]
  all_goals go_enter Try.func35, Try.ntmps35
  all_goals go_wp2
  all_goals go_ret2
  all_goals exact ⟨rfl, rfl⟩

set_option maxHeartbeats 400000 in
theorem dGreat_any (w : World) : Calls Try.prog 99 #[.agg #[]] w fun e w' => e = .returned (.int .i64 4398046511104) ∧ Below w.heap.size w w' := by
  have HB : Hid (∀ o, Below w.heap.size w (w.alloc o)) := fun o => below_alloc w o
  go_enter Try.func99, Try.ntmps99
  go_wp2
  go_ret
  exact ⟨rfl, HB.out _⟩
set_option maxHeartbeats 400000 in
theorem wGreat_any (w : World) : Calls Try.prog 105 #[.agg #[]] w fun e w' => e = .returned (.int .i64 199) ∧ Below w.heap.size w w' := by
  have HB : Hid (∀ o, Below w.heap.size w (w.alloc o)) := fun o => below_alloc w o
  go_enter Try.func105, Try.ntmps105
  go_wp2
  go_ret
  exact ⟨rfl, HB.out _⟩
set_option maxHeartbeats 400000 in
theorem dSay_any (a n : Int) (ha : 0 ≤ a ∧ a ≤ 4398046511104) (hn : 0 ≤ n ∧ n ≤ 1099511627776) (w : World) : Calls Try.prog 101 #[.agg #[], .int .i64 a, .int .i64 n] w fun e w' => e = .returned (.int .i64 (a + n)) ∧ Below w.heap.size w w' := by
  have HB : Hid (∀ o, Below w.heap.size w (w.alloc o)) := fun o => below_alloc w o
  have hw : IntKind.i64.wrap (a + n) = a + n := wrap_id64 (by omega) (by omega)
  go_enter Try.func101, Try.ntmps101
  go_wp2
  go_ret
  exact ⟨rfl, HB.out _⟩
set_option maxHeartbeats 400000 in
theorem wSay_any (a n : Int) (w : World) : Calls Try.prog 107 #[.agg #[], .int .i64 a, .int .i64 n] w fun e w' => e = .returned (.int .i64 a) ∧ Below w.heap.size w w' := by
  have HB : Hid (∀ o, Below w.heap.size w (w.alloc o)) := fun o => below_alloc w o
  go_enter Try.func107, Try.ntmps107
  go_wp2
  go_ret
  exact ⟨rfl, HB.out _⟩
set_option maxHeartbeats 400000 in
theorem dWays_any (w : World) : Calls Try.prog 102 #[.agg #[]] w fun e w' => e = .returned (.tuple #[.bool true, .bool false]) ∧ Below w.heap.size w w' := by
  have HB : Hid (∀ o, Below w.heap.size w (w.alloc o)) := fun o => below_alloc w o
  go_enter Try.func102, Try.ntmps102
  go_wp2
  go_ret2
  exact ⟨rfl, HB.out _⟩
set_option maxHeartbeats 400000 in
theorem wWays_any (w : World) : Calls Try.prog 108 #[.agg #[]] w fun e w' => e = .returned (.tuple #[.bool true, .bool true]) ∧ Below w.heap.size w w' := by
  have HB : Hid (∀ o, Below w.heap.size w (w.alloc o)) := fun o => below_alloc w o
  go_enter Try.func108, Try.ntmps108
  go_wp2
  go_ret2
  exact ⟨rfl, HB.out _⟩
set_option maxHeartbeats 400000 in
theorem sWays_any (b : Bool) (w : World) : Calls Try.prog 111 #[.agg #[.bool b]] w fun e w' => e = .returned (.tuple #[.bool (!b), .bool b]) ∧ Below w.heap.size w w' := by
  have HB : Hid (∀ o, Below w.heap.size w (w.alloc o)) := fun o => below_alloc w o
  have HC := cell_new0 w (.bool b) 87
  go_enter Try.func111, Try.ntmps111
  go_wp2_with fail
  go_quiet (fail)
  go_wp2_with fail
  go_ret2
  exact ⟨rfl, below_drewN (HB.out _) _⟩
end Go.Proofs.Ytinijeejfnehmaa
