/-
  The hops of all vertices are the edges, in order: plain mathematics.
-/
import Derived.Test.YtpoablcdfiimhabKeepSums
namespace Go.Proofs.Ytpoablcdfiimhab
open Go.ChangeShapes Go.WideShapes Go.ChangeAt Go.RowKit

/-- A hop from v, as an edge. -/
def edOf (v : Nat) (h : Hp) : Ed := ((v : Int), h.1, h.2)
/-- The hops of the vertices below k, as edges. -/
def allH (s : List Ed) : Nat → List Ed
  | 0 => []
  | k + 1 => allH s k ++ (hopsL s k).map (edOf k)
theorem hops_edges (s : List Ed) (v : Nat) : (hopsL s v).map (edOf v) = s.filter fun e => e.1 == (v : Int) := by
  unfold hopsL
  rw [List.map_map]
  have : ∀ e ∈ s.filter (fun e => e.1 == (v : Int)), (edOf v ∘ fun e : Ed => (e.2.1, e.2.2)) e = e := fun e he => by
    have h := (List.mem_filter.1 he).2
    have h1 : e.1 = (v : Int) := by simpa using h
    show ((v : Int), e.2.1, e.2.2) = e
    rw [← h1]
  rw [List.map_congr_left this, List.map_id'']
  intro x; rfl
theorem filter_next {k : Nat} : ∀ {s : List Ed}, s.Pairwise (fun x y => x.1 ≤ y.1) → s.filter (fun e => decide (e.1 < ((k + 1 : Nat) : Int))) = s.filter (fun e => decide (e.1 < (k : Int))) ++ s.filter (fun e => e.1 == (k : Int))
  | [], _ => rfl
  | x :: s, h => by
    obtain ⟨h1, h2⟩ := List.pairwise_cons.1 h
    have ih := filter_next (k := k) h2
    by_cases a : x.1 < (k : Int)
    · have b : x.1 < ((k + 1 : Nat) : Int) := by omega
      have c : (x.1 == (k : Int)) = false := by simp; omega
      rw [List.filter_cons_of_pos (by simpa using b), List.filter_cons_of_pos (by simpa using a), List.filter_cons_of_neg (by rw [c]; simp), ih]
      rfl
    · have e0 : s.filter (fun e => decide (e.1 < (k : Int))) = [] := by
        rw [List.filter_eq_nil_iff]
        intro y hy
        have := h1 y hy
        simp; omega
      have e1 : (x :: s).filter (fun e => decide (e.1 < (k : Int))) = [] := by rw [List.filter_cons_of_neg (by simpa using a), e0]
      rw [e1, List.nil_append]
      rw [e0, List.nil_append] at ih
      by_cases b : x.1 = (k : Int)
      · have b' : x.1 < ((k + 1 : Nat) : Int) := by omega
        rw [List.filter_cons_of_pos (by simpa using b'), List.filter_cons_of_pos (by simpa using b), ih]
      · have b' : ¬ x.1 < ((k + 1 : Nat) : Int) := by omega
        rw [List.filter_cons_of_neg (by simpa using b'), List.filter_cons_of_neg (by simpa using b), ih]
theorem allH_filter {s : List Ed} (h : s.Pairwise (fun x y => x.1 ≤ y.1)) (h0 : ∀ e ∈ s, 0 ≤ e.1) : ∀ k, allH s k = s.filter fun e => decide (e.1 < (k : Int))
  | 0 => by
    have : s.filter (fun e => decide (e.1 < ((0 : Nat) : Int))) = [] := by
      rw [List.filter_eq_nil_iff]
      intro y hy
      have := h0 y hy
      simp; omega
    rw [this]; rfl
  | k + 1 => by rw [allH, allH_filter h h0 k, hops_edges, filter_next h]
theorem sort_first (es : List Ed) : (sortE es).Pairwise fun x y => x.1 ≤ y.1 := (sortE_sorted es).imp fun {x y} h => by
  rw [leE_iff] at h
  unfold ltE at h
  omega
theorem allH_all {es : List Ed} {m : Nat} (h : faultE m es = 0) : allH (sortE es) m = sortE es := by
  have hin : ∀ e ∈ sortE es, 0 ≤ e.1 ∧ e.1 < (m : Int) := fun e he => by
    obtain ⟨a, b, _⟩ := in_of_out ((fault_ok h).2.2.2 e ((sortE_perm es).mem_iff.1 he))
    exact ⟨a, b⟩
  rw [allH_filter (sort_first es) (fun e he => (hin e he).1)]
  rw [List.filter_eq_self]
  intro e he
  simpa using (hin e he).2
theorem allH_len (s : List Ed) (h : s.Pairwise (fun x y => x.1 ≤ y.1)) (h0 : ∀ e ∈ s, 0 ≤ e.1) (k : Nat) : (allH s k).length ≤ s.length := by
  rw [allH_filter h h0]; exact List.length_filter_le _ _
end Go.Proofs.Ytpoablcdfiimhab
