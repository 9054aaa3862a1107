/-
  Contracts of graph's insideOf, its closure, Check's closure, slices.IndexFunc and ContainsFunc over it, and Check itself.
-/
import Derived.Test.YtinijeejfnehmaaGraphMath
namespace Go.Proofs.Ytinijeejfnehmaa
set_option maxRecDepth 100000
open Go.ChangeShapes Go.WideShapes Go.ChangeAt Go.RowKit

/-- The closure that tells whether a vertex is inside; the number of vertices lies in the block q. -/
def insF (q : Nat) : Value := .func (.func 45) #[] #[.pointer (some ⟨q, 0, none⟩)]
def insB (n v : Int) : Bool := decide (0 ≤ v) && decide (v < n)

set_option maxHeartbeats 400000 in
theorem inside_any (n v : Int) (q : Nat) (w : World) (hq : w.cell? ⟨q, 0, none⟩ = some (.int .i64 n)) :
    Calls Try.prog 45 #[.int .i64 v, .pointer (some ⟨q, 0, none⟩)] w fun e w' => e = .returned (.bool (insB n v)) ∧ w' = w := by
  unfold insB
  by_cases h0 : 0 ≤ v
  · by_cases h1 : v < n
    · have e1 : decide (v < n) = true := by simpa using h1
      have e0 : decide (0 ≤ v) = true := by simpa using h0
      rw [e0, e1]
      go_enter Try.func45, Try.ntmps45
      go_wp2
      go_ret
      exact ⟨rfl, rfl⟩
    · have e1 : decide (v < n) = false := by simpa using h1
      have e0 : decide (0 ≤ v) = true := by simpa using h0
      rw [e0, e1]
      go_enter Try.func45, Try.ntmps45
      go_wp2
      go_ret
      exact ⟨rfl, rfl⟩
  · have e0 : decide (0 ≤ v) = false := by simpa using h0
    rw [e0]
    go_enter Try.func45, Try.ntmps45
    go_wp2
    go_ret
    exact ⟨rfl, rfl⟩

set_option maxHeartbeats 400000 in
theorem insideOf_any (n : Int) (w : World) :
    Calls Try.prog 32 #[.int .i64 n] w fun e w' => e = .returned (insF w.heap.size) ∧ w' = w.alloc (.cells #[.int .i64 n] 3) := by
  have hmf := makeFunc_run
  go_enter Try.func32, Try.ntmps32
  go_wp2
  go_ret
  exact ⟨rfl, rfl⟩

set_option maxHeartbeats 1000000 in
/-- Check's closure: is the edge outside? -/
theorem outside_any (n : Int) (e : Ed) (p q : Nat) (w : World) (hp : w.cell? ⟨p, 0, none⟩ = some (insF q)) (hq : w.cell? ⟨q, 0, none⟩ = some (.int .i64 n)) :
    Calls Try.prog 33 #[.agg #[.int .i64 e.1, .int .i64 e.2.1, .int .i64 e.2.2], .pointer (some ⟨p, 0, none⟩)] w fun r w' => r = .returned (.bool (outE n e)) ∧ Below w.heap.size w w' := by
  obtain ⟨f, t, c⟩ := e
  have lp : p < w.heap.size := World.block_lt_of_cell? w _ hp
  have lq : q < w.heap.size := World.block_lt_of_cell? w _ hq
  have hp2 : ∀ X, (w.alloc X).cell? ⟨p, 0, none⟩ = some (.func (.func 45) #[] #[.pointer (some ⟨q, 0, none⟩)]) := fun X => ((below_alloc w X).cell (p := ⟨p, 0, none⟩) lp).trans hp
  have hq2 : ∀ X, (w.alloc X).cell? ⟨q, 0, none⟩ = some (.int .i64 n) := fun X => ((below_alloc w X).cell (p := ⟨q, 0, none⟩) lq).trans hq
  show Calls Try.prog _ #[.agg #[.int .i64 f, .int .i64 t, .int .i64 c], .pointer (some ⟨p, 0, none⟩)] w _
  have ho : outE n (f, t, c) = (!insB n f || !insB n t || decide (c < 0) || decide (1099511627776 < c)) := rfl
  rw [ho]
  cases hf : insB n f
  · go_enter Try.func33, Try.ntmps33
    go_wp2_with (go_at_call 45; refine (inside_any n _ q _ (hq2 _)).mono ?_; rw [hf]; rintro e w1 ⟨rfl, rfl⟩)
    go_ret
    exact ⟨rfl, below_alloc _ _⟩
  · cases ht : insB n t
    · go_enter Try.func33, Try.ntmps33
      go_wp2_with (go_at_call 45; refine (inside_any n _ q _ (hq2 _)).mono ?_; (first | rw [hf] | rw [ht]); rintro e w1 ⟨rfl, rfl⟩)
      go_ret
      exact ⟨rfl, below_alloc _ _⟩
    · by_cases h0 : c < 0
      · have e0 : decide (c < 0) = true := by simpa using h0
        rw [e0]
        go_enter Try.func33, Try.ntmps33
        go_wp2_with (go_at_call 45; refine (inside_any n _ q _ (hq2 _)).mono ?_; (first | rw [hf] | rw [ht]); rintro e w1 ⟨rfl, rfl⟩)
        go_ret
        exact ⟨rfl, below_alloc _ _⟩
      · have e0 : decide (c < 0) = false := by simpa using h0
        rw [e0]
        by_cases h1 : 1099511627776 < c
        · have e1 : decide (1099511627776 < c) = true := by simpa using h1
          rw [e1]
          go_enter Try.func33, Try.ntmps33
          go_wp2_with (go_at_call 45; refine (inside_any n _ q _ (hq2 _)).mono ?_; (first | rw [hf] | rw [ht]); rintro e w1 ⟨rfl, rfl⟩)
          go_ret
          exact ⟨rfl, below_alloc _ _⟩
        · have e1 : decide (1099511627776 < c) = false := by simpa using h1
          rw [e1]
          go_enter Try.func33, Try.ntmps33
          go_wp2_with (go_at_call 45; refine (inside_any n _ q _ (hq2 _)).mono ?_; (first | rw [hf] | rw [ht]); rintro e w1 ⟨rfl, rfl⟩)
          go_ret
          exact ⟨rfl, below_alloc _ _⟩
end Go.Proofs.Ytinijeejfnehmaa
