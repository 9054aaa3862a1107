/-
  Contract of the document's own EdgeAhead; an insertion in plain mathematics.
-/
import Derived.Test.YtpoablcdfiimhaaSortMath
namespace Go.Proofs.Ytpoablcdfiimhaa
open Go.ChangeShapes Go.WideShapes Go.ChangeAt Go.RowKit

/-- x stands ahead of y. -/
def aheadB (x y : Ed) : Bool := if x.1 ≠ y.1 then decide (x.1 < y.1) else if x.2.1 ≠ y.2.1 then decide (x.2.1 < y.2.1) else decide (x.2.2 < y.2.2)
theorem ahead_lt (x y : Ed) : aheadB x y = ltEb x y := by
  unfold aheadB ltEb
  by_cases h1 : x.1 ≠ y.1
  · rw [if_pos h1]; congr 1; exact propext ⟨fun h => by omega, fun h => by omega⟩
  · rw [if_neg h1]
    by_cases h2 : x.2.1 ≠ y.2.1
    · rw [if_pos h2]; congr 1; exact propext ⟨fun h => by omega, fun h => by omega⟩
    · rw [if_neg h2]; congr 1; exact propext ⟨fun h => by omega, fun h => by omega⟩

set_option maxHeartbeats 1000000 in
theorem ahead_any (x y : Ed) (w : World) : Calls Try.prog 39 #[.agg #[.int .i64 x.1, .int .i64 x.2.1, .int .i64 x.2.2], .agg #[.int .i64 y.1, .int .i64 y.2.1, .int .i64 y.2.2]] w fun e w' => e = .returned (.bool (ltEb x y)) ∧ Below w.heap.size w w' := by
  rw [← ahead_lt]
  obtain ⟨a0, a1, a2⟩ := x
  obtain ⟨b0, b1, b2⟩ := y
  unfold aheadB
  simp only
  have hb : ∀ o1 o2, Below w.heap.size w ((w.alloc o1).alloc o2) := fun o1 o2 => (below_alloc w o1).alloc (by simp) o2
  by_cases h1 : a0 = b0
  · rw [if_neg (by simpa using h1)]
    have e1 : (a0 != b0) = false := by simpa using h1
    by_cases h2 : a1 = b1
    · rw [if_neg (by simpa using h2)]
      have e2 : (a1 != b1) = false := by simpa using h2
      clear h1 h2
      go_enter Try.func39, Try.ntmps39
      go_wp2_with fail
      go_ret
      exact ⟨rfl, hb _ _⟩
    · rw [if_pos h2]
      have e2 : (a1 != b1) = true := by simpa using h2
      clear h1 h2
      go_enter Try.func39, Try.ntmps39
      go_wp2_with fail
      go_ret
      exact ⟨rfl, hb _ _⟩
  · rw [if_pos h1]
    have e1 : (a0 != b0) = true := by simpa using h1
    clear h1
    go_enter Try.func39, Try.ntmps39
    go_wp2_with fail
    go_ret
    exact ⟨rfl, hb _ _⟩

/-- In order. -/
abbrev InO (l : List Ed) : Prop := l.Pairwise fun x y => leE x y = true
/-- x is put behind A and ahead of B. -/
theorem put_sorted {A B : List Ed} {x : Ed} (h : InO (A ++ B)) (hB : ∀ y ∈ B, ltE x y) (hA : ∀ z, A.getLast? = some z → ¬ ltE x z) : InO (A ++ x :: B) := by
  unfold InO at *
  rw [List.pairwise_append] at h ⊢
  obtain ⟨h1, h2, h3⟩ := h
  have hAx : ∀ a ∈ A, leE a x = true := by
    intro a ha
    rw [leE_iff]
    rcases List.eq_nil_or_concat A with rfl | ⟨A', z, rfl⟩
    · simp at ha
    · have hz : ¬ ltE x z := hA z (by simp)
      simp only [List.concat_eq_append] at ha h1
      rw [List.mem_append] at ha
      rcases ha with ha | ha
      · have := (List.pairwise_append.1 h1).2.2 a ha z (by simp)
        rw [leE_iff] at this
        unfold ltE at *; omega
      · simp at ha; subst ha; exact hz
  refine ⟨h1, ?_, ?_⟩
  · rw [List.pairwise_cons]
    exact ⟨fun y hy => by have := hB y hy; rw [leE_iff]; unfold ltE at *; omega, h2⟩
  · intro a ha y hy
    rcases List.mem_cons.1 hy with rfl | hy
    · exact hAx a ha
    · exact h3 a ha y hy
theorem put_perm {A B s l : List Ed} {x : Ed} (h : A ++ B = s) (hp : s.Perm l) : (A ++ x :: B).Perm (l ++ [x]) := by
  subst h
  exact (List.perm_middle.trans (List.Perm.cons x hp)).trans (List.perm_append_singleton x l).symm
end Go.Proofs.Ytpoablcdfiimhaa
