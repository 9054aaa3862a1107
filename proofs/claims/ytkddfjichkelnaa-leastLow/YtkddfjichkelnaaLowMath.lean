/-
  P8.4 in plain mathematics: of each vertex's mail just the least is left.
-/
import Derived.Test.YtkddfjichkelnaaKeepTimes
namespace Go.Proofs.Ytkddfjichkelnaa
set_option maxRecDepth 100000

theorem lowT_mem {l : List Ml} {k : Nat} {y : Ml} : y ∈ lowT l k ↔ ∃ i, i < k ∧ keepB l i = true ∧ l[i]? = some y := by
  unfold lowT
  rw [List.mem_filterMap]
  constructor
  · rintro ⟨i, hi, hy⟩
    rw [List.mem_filter, List.mem_range] at hi
    exact ⟨i, hi.1, hi.2, hy⟩
  · rintro ⟨i, h1, h2, h3⟩
    exact ⟨i, List.mem_filter.2 ⟨List.mem_range.2 h1, h2⟩, h3⟩
theorem in_at {l : List Ml} (h : InM l) {i j : Nat} {x y : Ml} (hij : i ≤ j) (hx : l[i]? = some x) (hy : l[j]? = some y) : leM x y = true := by
  by_cases e : i = j
  · subst e
    rw [hx] at hy
    injection hy with hy
    subst hy
    exact leM_refl x
  · obtain ⟨li, rfl⟩ := List.getElem?_eq_some_iff.1 hx
    obtain ⟨lj, rfl⟩ := List.getElem?_eq_some_iff.1 hy
    exact List.pairwise_iff_getElem.1 h i j li lj (by omega)
theorem in_to {l : List Ml} (h : InM l) {i j : Nat} {x y : Ml} (hij : i ≤ j) (hx : l[i]? = some x) (hy : l[j]? = some y) : x.1 ≤ y.1 := by
  have := in_at h hij hx hy
  rw [leM_iff] at this
  unfold ltM at this
  omega
/-- The first of its To: those ahead have other ones. -/
theorem keep_first {l : List Ml} (h : InM l) {i j : Nat} {x y : Ml} (hk : keepB l i = true) (hij : j < i) (hx : l[i]? = some x) (hy : l[j]? = some y) : y.1 < x.1 := by
  obtain ⟨m, rfl⟩ : ∃ m, i = m + 1 := ⟨i - 1, by omega⟩
  have hml : m < l.length := by have := (List.getElem?_eq_some_iff.1 hx).1; omega
  have hz : l[m]? = some l[m] := List.getElem?_eq_getElem hml
  rw [keepB_succ hx hz] at hk
  have hne : x.1 ≠ l[m].1 := of_decide_eq_true hk
  have h1 := in_to h (i := m) (j := m + 1) (by omega) hz hx
  have h2 := in_to h (i := j) (j := m) (by omega) hy hz
  omega
theorem low_le {l : List Ml} (h : InM l) {x y : Ml} (hy : y ∈ lowM l) (hx : x ∈ l) (e : y.1 = x.1) : y.2 ≤ x.2 := by
  obtain ⟨i, _, hk, hi⟩ := lowT_mem.1 hy
  obtain ⟨j, hj, rfl⟩ := List.getElem_of_mem hx
  have hj2 : l[j]? = some l[j] := List.getElem?_eq_getElem hj
  rcases Nat.lt_or_ge j i with hlt | hge
  · have := keep_first h hk hlt hi hj2
    omega
  · have := in_at h hge hi hj2
    rw [leM_iff] at this
    unfold ltM at this
    omega
theorem low_in {l : List Ml} {y : Ml} (hy : y ∈ lowM l) : y ∈ l := by
  obtain ⟨i, _, _, hi⟩ := lowT_mem.1 hy
  exact List.mem_of_getElem? hi
/-- How many pieces are for t. -/
def forT (l : List Ml) (t : Int) : Nat := l.countP fun y => decide (y.1 = t)
theorem forT_le (l : List Ml) (t : Int) : forT l t ≤ l.length := List.countP_le_length
theorem forT_take {l : List Ml} {k : Nat} {x : Ml} {t : Int} (hx : l[k]? = some x) : forT (l.take (k + 1)) t = forT (l.take k) t + (if x.1 = t then 1 else 0) := by
  unfold forT
  rw [take_snoc hx, List.countP_append]
  simp
theorem low_none {l : List Ml} {k : Nat} {t : Int} (h : ∀ i x, i < k → l[i]? = some x → x.1 ≠ t) : forT (lowT l k) t = 0 := by
  unfold forT
  rw [List.countP_eq_zero]
  intro y hy
  obtain ⟨i, hi, _, hy⟩ := lowT_mem.1 hy
  simpa using h i y hi hy
theorem low_one {l : List Ml} (h : InM l) {t : Int} : ∀ (k : Nat), k ≤ l.length → (∃ i x, i < k ∧ l[i]? = some x ∧ x.1 = t) → forT (lowT l k) t = 1
  | 0, _, h => by obtain ⟨i, x, hi, _⟩ := h; omega
  | k + 1, hk, he => by
    have hx : l[k]? = some l[k] := List.getElem?_eq_getElem (by omega)
    cases hkb : keepB l k with
    | true =>
      rw [lowT_yes hx hkb]
      unfold forT
      rw [List.countP_append]
      by_cases e : l[k].1 = t
      · have h0 : forT (lowT l k) t = 0 := low_none fun i y hi hy => by
          have := keep_first h hkb hi hx hy
          omega
        unfold forT at h0
        rw [h0]
        simp [e]
      · obtain ⟨i, y, hi, hy, ey⟩ := he
        have hik : i < k := by
          rcases Nat.lt_or_ge i k with h | h
          · exact h
          · have : i = k := by omega
            subst this
            rw [hx] at hy
            injection hy with hy
            subst hy
            exact absurd ey e
        have h1 := low_one h k (by omega) ⟨i, y, hik, hy, ey⟩
        unfold forT at h1
        rw [h1]
        simp [e]
    | false =>
      rw [lowT_no hkb]
      refine low_one h k (by omega) ?_
      obtain ⟨m, rfl⟩ : ∃ m, k = m + 1 := by
        cases k with
        | zero => rw [keepB_zero] at hkb; cases hkb
        | succ m => exact ⟨m, rfl⟩
      have hz : l[m]? = some l[m] := List.getElem?_eq_getElem (by omega)
      rw [keepB_succ hx hz] at hkb
      have e1 : l[m + 1].1 = l[m].1 := by simpa using hkb
      obtain ⟨i, y, hi, hy, ey⟩ := he
      rcases Nat.lt_or_ge i (m + 1) with h2 | h2
      · exact ⟨i, y, h2, hy, ey⟩
      · have : i = m + 1 := by omega
        subst this
        rw [hx] at hy
        injection hy with hy
        subst hy
        exact ⟨m, _, by omega, hz, by rw [← e1]; exact ey⟩
theorem low_for {l : List Ml} (h : InM l) {x : Ml} (hx : x ∈ l) : forT (lowM l) x.1 = 1 := by
  obtain ⟨j, hj, rfl⟩ := List.getElem_of_mem hx
  exact low_one h l.length (Nat.le_refl _) ⟨j, _, hj, List.getElem?_eq_getElem hj, rfl⟩
theorem low_nil {l : List Ml} : (lowM l).length = 0 ↔ l.length = 0 := by
  constructor
  · intro h
    cases l with
    | nil => rfl
    | cons x l =>
      have : x ∈ lowM (x :: l) := lowT_mem.2 ⟨0, by simp, keepB_zero _, rfl⟩
      rw [List.eq_nil_of_length_eq_zero h] at this
      simp at this
  · intro h
    have := List.eq_nil_of_length_eq_zero h
    subst this
    rfl
end Go.Proofs.Ytkddfjichkelnaa
