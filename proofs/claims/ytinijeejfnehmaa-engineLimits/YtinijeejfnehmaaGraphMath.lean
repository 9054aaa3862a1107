/-
  P4.1 in plain mathematics: what is wrong with a graph.
-/
import Derived.Test.YtinijeejfnehmaaRowMem
namespace Go.Proofs.Ytinijeejfnehmaa
set_option maxRecDepth 100000

/-- The edge is no edge of a graph of n vertices. -/
def outE (n : Int) (e : Ed) : Bool := !(decide (0 ≤ e.1) && decide (e.1 < n)) || !(decide (0 ≤ e.2.1) && decide (e.2.1 < n)) || decide (e.2.2 < 0) || decide (1099511627776 < e.2.2)
/-- P4.1: the error. -/
def faultE (n : Int) (es : List Ed) : Int := if n < 0 ∨ 200 < n ∨ 600 < es.length then 1 else if es.any (outE n) then 2 else 0

theorem fault_size {n : Int} {es : List Ed} (h : n < 0 ∨ 200 < n ∨ 600 < es.length) : faultE n es = 1 := by rw [faultE, if_pos h]
theorem fault_any {n : Int} {es : List Ed} (h : ¬ (n < 0 ∨ 200 < n ∨ 600 < es.length)) (b : Bool) (hb : es.any (outE n) = b) : faultE n es = if b then 2 else 0 := by rw [faultE, if_neg h, hb]
theorem any_hit {α : Type} {p : α → Bool} {xs : List α} {k : Nat} {x : α} (h : xs[k]? = some x) (hp : p x = true) : xs.any p = true := List.any_eq_true.2 ⟨x, List.mem_of_getElem? h, hp⟩
theorem any_miss {α : Type} {p : α → Bool} {xs : List α} (h : (xs.take xs.length).any p = false) : xs.any p = false := by rwa [List.take_length] at h
theorem any_step {α : Type} {p : α → Bool} {xs : List α} {k : Nat} {x : α} (h : xs[k]? = some x) (h0 : (xs.take k).any p = false) (hp : p x = false) : (xs.take (k + 1)).any p = false := by
  rw [take_snoc h, List.any_append, h0]; simp [hp]
/-- What a right graph is. -/
theorem fault_ok {n : Int} {es : List Ed} (h : faultE n es = 0) : 0 ≤ n ∧ n ≤ 200 ∧ es.length ≤ 600 ∧ ∀ e ∈ es, outE n e = false := by
  unfold faultE at h
  by_cases h1 : n < 0 ∨ 200 < n ∨ 600 < es.length
  · rw [if_pos h1] at h; omega
  · rw [if_neg h1] at h
    by_cases h2 : es.any (outE n) = true
    · rw [if_pos h2] at h; omega
    · refine ⟨by omega, by omega, by omega, fun e he => ?_⟩
      cases h3 : outE n e
      · rfl
      · exact absurd (List.any_eq_true.2 ⟨e, he, h3⟩) h2
theorem ok_fault {n : Int} {es : List Ed} (h0 : 0 ≤ n) (h1 : n ≤ 200) (h2 : es.length ≤ 600) (h3 : ∀ e ∈ es, outE n e = false) : faultE n es = 0 := by
  rw [faultE, if_neg (by omega), if_neg]
  intro h
  obtain ⟨e, he, hp⟩ := List.any_eq_true.1 h
  rw [h3 e he] at hp; cases hp
theorem in_of_out {n : Int} {e : Ed} (h : outE n e = false) : 0 ≤ e.1 ∧ e.1 < n ∧ 0 ≤ e.2.1 ∧ e.2.1 < n ∧ 0 ≤ e.2.2 ∧ e.2.2 ≤ 1099511627776 := by
  unfold outE at h
  simp only [Bool.or_eq_false_iff, Bool.not_eq_false', Bool.and_eq_true, decide_eq_true_eq, decide_eq_false_iff_not] at h
  omega
theorem out_of_in {n : Int} {e : Ed} (h1 : 0 ≤ e.1 ∧ e.1 < n) (h2 : 0 ≤ e.2.1 ∧ e.2.1 < n) (h3 : 0 ≤ e.2.2 ∧ e.2.2 ≤ 1099511627776) : outE n e = false := by
  unfold outE
  simp only [Bool.or_eq_false_iff, Bool.not_eq_false', Bool.and_eq_true, decide_eq_true_eq, decide_eq_false_iff_not]
  omega
end Go.Proofs.Ytinijeejfnehmaa
