/-
  Degrees add up to the edges; hops of all vertices: plain mathematics.
-/
import Derived.Test.YtpoablcdfiimhabKeepGraph
import Derived.Test.YtpoablcdfiimhabHopsWalk
import Derived.Test.YtpoablcdfiimhabDegWalk
namespace Go.Proofs.Ytpoablcdfiimhab

def degSum (es : List Ed) : Nat → Int
  | 0 => 0
  | k + 1 => degSum es k + degE es k
theorem degSum_count (es : List Ed) : ∀ k : Nat, degSum es k = ((es.countP fun e => decide (0 ≤ e.1) && decide (e.1 < (k : Int)) : Nat) : Int)
  | 0 => by
    have : es.countP (fun e => decide (0 ≤ e.1) && decide (e.1 < ((0 : Nat) : Int))) = 0 := by
      rw [List.countP_eq_zero]
      intro e _
      simp only [Bool.and_eq_true, decide_eq_true_eq]
      omega
    rw [this]; rfl
  | k + 1 => by
    rw [degSum, degSum_count es k, degE]
    have : ∀ l : List Ed, l.countP (fun e => decide (0 ≤ e.1) && decide (e.1 < ((k + 1 : Nat) : Int))) = l.countP (fun e => decide (0 ≤ e.1) && decide (e.1 < (k : Int))) + l.countP (fun e => e.1 == (k : Int)) := by
      intro l
      induction l with
      | nil => rfl
      | cons e l ih =>
        rw [List.countP_cons, List.countP_cons, List.countP_cons, ih]
        have : (if (decide (0 ≤ e.1) && decide (e.1 < ((k + 1 : Nat) : Int))) = true then 1 else 0) = (if (decide (0 ≤ e.1) && decide (e.1 < (k : Int))) = true then 1 else 0) + (if (e.1 == (k : Int)) = true then 1 else 0) := by
          by_cases h1 : e.1 = (k : Int)
          · simp [h1]; omega
          · have h2 : (e.1 == (k : Int)) = false := by simpa using h1
            rw [h2]
            by_cases h3 : 0 ≤ e.1 ∧ e.1 < (k : Int)
            · have h4 : 0 ≤ e.1 ∧ e.1 < ((k + 1 : Nat) : Int) := by omega
              simp only [h3.1, h3.2, h4.2, decide_true, Bool.and_self, if_true]
              rfl
            · have h4 : ¬ (0 ≤ e.1 ∧ e.1 < ((k + 1 : Nat) : Int)) := by omega
              have h5 : (decide (0 ≤ e.1) && decide (e.1 < (k : Int))) = false := by
                rw [Bool.and_eq_false_iff, decide_eq_false_iff_not, decide_eq_false_iff_not]; omega
              have h6 : (decide (0 ≤ e.1) && decide (e.1 < ((k + 1 : Nat) : Int))) = false := by
                rw [Bool.and_eq_false_iff, decide_eq_false_iff_not, decide_eq_false_iff_not]; omega
              rw [h5, h6]; rfl
        omega
    rw [this]
    omega
theorem degSum_le (es : List Ed) (k : Nat) : 0 ≤ degSum es k ∧ degSum es k ≤ es.length := by
  rw [degSum_count]
  have := List.countP_le_length (p := fun e : Ed => decide (0 ≤ e.1) && decide (e.1 < (k : Int))) (l := es)
  omega
theorem degSum_all {es : List Ed} {m : Nat} (h : faultE m es = 0) : degSum es m = es.length := by
  rw [degSum_count]
  have := (fault_ok h).2.2.2
  rw [List.countP_eq_length.2]
  intro e he
  obtain ⟨a, b, _⟩ := in_of_out (this e he)
  simp [a, b]
theorem hops_deg (es : List Ed) (v : Nat) : ((hopsL (sortE es) v).length : Int) = degE es v := by
  unfold hopsL degE
  rw [List.length_map, ← List.countP_eq_length_filter, (sortE_perm es).countP_eq]
end Go.Proofs.Ytpoablcdfiimhab
