/-
  Heaps in plain mathematics: lists of heads, in which none stands ahead of its parent.
-/
import Derived.Test.YtihghhmhgakkaaaHeapMem
namespace Go.Proofs.Ytihghhmhgakkaaa
set_option maxRecDepth 100000

/-- Not behind, by the first piece of mail. -/
def leD (x y : Hd) : Prop := ¬ ltM y.x x.x
theorem leD_trans {x y z : Hd} (h1 : leD x y) (h2 : leD y z) : leD x z := by unfold leD ltM at *; omega
theorem leD_refl (x : Hd) : leD x x := by unfold leD ltM; omega
theorem leD_of_lt {x y : Hd} (h : ltM x.x y.x) : leD x y := by unfold leD ltM at *; omega
/-- All children, up to n, of the places from m on stand in order. -/
def HpF (hs : List Hd) (m n : Nat) : Prop := ∀ k p x y, 0 < k → k < n → p = (k - 1) / 2 → m ≤ p → hs[p]? = some x → hs[k]? = some y → leD x y
/-- .. but for the place i, whose parent (from m on) is not behind its children. -/
def HpD (hs : List Hd) (m n i : Nat) : Prop :=
  (∀ k p x y, 0 < k → k < n → p = (k - 1) / 2 → m ≤ p → p ≠ i → hs[p]? = some x → hs[k]? = some y → leD x y) ∧
  (∀ k p x y, 0 < k → k < n → (k - 1) / 2 = i → 0 < i → p = (i - 1) / 2 → m ≤ p → hs[p]? = some x → hs[k]? = some y → leD x y)
theorem HpD.start {hs : List Hd} {m n : Nat} (h : HpF hs (m + 1) n) : HpD hs m n m :=
  ⟨fun k p x y h0 h1 h2 h3 h4 hx hy => h k p x y h0 h1 h2 (by omega) hx hy, fun k p x y h0 h1 h2 h3 h4 h5 => by omega⟩
/-- None of its children is ahead of i: all is in order. -/
theorem HpD.stop {hs : List Hd} {m n i : Nat} (h : HpD hs m n i) (hc : ∀ k x y, 0 < k → k < n → (k - 1) / 2 = i → hs[i]? = some x → hs[k]? = some y → leD x y) : HpF hs m n := fun k p x y h0 h1 h2 h3 hx hy => by
  by_cases e : p = i
  · subst e
    exact hc k x y h0 h1 h2.symm hx hy
  · exact h.1 k p x y h0 h1 h2 h3 e hx hy
theorem swap_at {hs : List Hd} {i j : Nat} {x y : Hd} (hi : hs[i]? = some x) (hj : hs[j]? = some y) (k : Nat) : ((hs.set i y).set j x)[k]? = if k = j then some x else if k = i then some y else hs[k]? := by
  have li := (List.getElem?_eq_some_iff.1 hi).1
  have lj := (List.getElem?_eq_some_iff.1 hj).1
  by_cases e1 : k = j
  · subst e1
    rw [if_pos rfl, List.getElem?_set_self (by simpa using lj)]
  · rw [if_neg e1, List.getElem?_set_ne (fun h => e1 h.symm)]
    by_cases e2 : k = i
    · subst e2
      rw [if_pos rfl, List.getElem?_set_self li]
    · rw [if_neg e2, List.getElem?_set_ne (fun h => e2 h.symm)]
theorem swap_perm {hs : List Hd} {i j : Nat} {x y : Hd} (hi : hs[i]? = some x) (hj : hs[j]? = some y) : ((hs.set i y).set j x).Perm hs := by
  obtain ⟨li, rfl⟩ := List.getElem?_eq_some_iff.1 hi
  obtain ⟨lj, rfl⟩ := List.getElem?_eq_some_iff.1 hj
  exact List.set_set_perm li lj
/-- i and its child j, which is ahead of it and not behind the other one, are exchanged. -/
theorem HpD.down {hs : List Hd} {m n i j : Nat} {x y : Hd} (h : HpD hs m n i) (hm : m ≤ i) (h0 : 0 < j) (hj : j < n) (hp : (j - 1) / 2 = i) (hx : hs[i]? = some x) (hy : hs[j]? = some y) (hlt : ltM y.x x.x)
    (hc : ∀ k z, 0 < k → k < n → (k - 1) / 2 = i → hs[k]? = some z → leD y z) : HpD ((hs.set i y).set j x) m n j := by
  have sw := swap_at hx hy
  constructor
  · intro k p u v k0 k1 k2 k3 k4 hu hv
    rw [sw] at hu hv
    rw [if_neg k4] at hu
    by_cases e1 : k = j
    · subst e1
      have : p = i := by omega
      subst this
      rw [if_pos rfl] at hu hv
      injection hu with hu
      injection hv with hv
      subst hu hv
      exact leD_of_lt hlt
    · rw [if_neg e1] at hv
      by_cases e2 : p = i
      · subst e2
        rw [if_pos rfl] at hu
        injection hu with hu
        subst hu
        rw [if_neg (by omega)] at hv
        exact hc k v k0 k1 k2.symm hv
      · rw [if_neg e2] at hu
        by_cases e3 : k = i
        · subst e3
          rw [if_pos rfl] at hv
          injection hv with hv
          subst hv
          exact h.2 j p u y h0 hj hp k0 k2 k3 hu hy
        · rw [if_neg e3] at hv
          exact h.1 k p u v k0 k1 k2 k3 e2 hu hv
  · intro k p u v k0 k1 k2 k3 k4 k5 hu hv
    have ep : p = i := by omega
    subst ep
    rw [sw] at hu hv
    rw [if_neg (by omega), if_pos rfl] at hu
    injection hu with hu
    subst hu
    rw [if_neg (by omega), if_neg (by omega)] at hv
    exact h.1 k j y v k0 k1 k2.symm (by omega) (by omega) hy hv
/-- The root is the least. -/
theorem HpF.root {hs : List Hd} {n : Nat} (h : HpF hs 0 n) (hn : n ≤ hs.length) {x : Hd} (hx : hs[0]? = some x) : ∀ k y, k < n → hs[k]? = some y → leD x y := by
  intro k
  induction k using Nat.strongRecOn with
  | ind k ih =>
    intro y hk hy
    by_cases e : k = 0
    · subst e
      rw [hx] at hy
      injection hy with hy
      subst hy
      exact leD_refl x
    · obtain ⟨z, hz⟩ : ∃ z, hs[(k - 1) / 2]? = some z := ⟨_, List.getElem?_eq_getElem (by omega)⟩
      exact leD_trans (ih ((k - 1) / 2) (by omega) z (by omega) hz) (h k _ z y (by omega) hk rfl (Nat.zero_le _) hz hy)
/-- In order but for the place j and its parent. -/
def HpU (hs : List Hd) (n j : Nat) : Prop :=
  (∀ k p x y, 0 < k → k < n → p = (k - 1) / 2 → k ≠ j → hs[p]? = some x → hs[k]? = some y → leD x y) ∧
  (∀ k p x y, 0 < k → k < n → (k - 1) / 2 = j → 0 < j → p = (j - 1) / 2 → hs[p]? = some x → hs[k]? = some y → leD x y)
theorem HpU.start {hs : List Hd} {x : Hd} (h : HpF hs 0 hs.length) : HpU (hs ++ [x]) (hs.length + 1) hs.length := by
  constructor
  · intro k p u v k0 k1 k2 k3 hu hv
    rw [List.getElem?_append_left (by omega)] at hu hv
    exact h k p u v k0 (by omega) k2 (Nat.zero_le _) hu hv
  · intro k p u v k0 k1 k2 k3 k4
    omega
theorem HpU.stop {hs : List Hd} {n j : Nat} (h : HpU hs n j) (hc : ∀ p x y, 0 < j → p = (j - 1) / 2 → hs[p]? = some x → hs[j]? = some y → leD x y) : HpF hs 0 n := fun k p x y h0 h1 h2 _ hx hy => by
  by_cases e : k = j
  · subst e
    exact hc p x y h0 h2 hx hy
  · exact h.1 k p x y h0 h1 h2 e hx hy
theorem HpU.up {hs : List Hd} {n i j : Nat} {x y : Hd} (h : HpU hs n j) (h0 : 0 < j) (hi : i = (j - 1) / 2) (hx : hs[i]? = some x) (hy : hs[j]? = some y) (hlt : ltM y.x x.x) (hj : j < n) : HpU ((hs.set i y).set j x) n i := by
  have sw := swap_at hx hy
  constructor
  · intro k p u v k0 k1 k2 k3 hu hv
    rw [sw] at hu hv
    by_cases e1 : k = j
    · subst e1
      have ep : p = i := by omega
      subst ep
      rw [if_neg (by omega), if_pos rfl] at hu
      rw [if_pos rfl] at hv
      injection hu with hu
      injection hv with hv
      subst hu hv
      exact leD_of_lt hlt
    · rw [if_neg e1, if_neg k3] at hv
      by_cases e2 : p = j
      · subst e2
        rw [if_pos rfl] at hu
        injection hu with hu
        subst hu
        exact h.2 k i x v k0 k1 k2.symm h0 hi hx hv
      · rw [if_neg e2] at hu
        by_cases e3 : p = i
        · subst e3
          rw [if_pos rfl] at hu
          injection hu with hu
          subst hu
          exact leD_trans (leD_of_lt hlt) (h.1 k p x v k0 k1 k2 e1 hx hv)
        · rw [if_neg e3] at hu
          exact h.1 k p u v k0 k1 k2 e1 hu hv
  · intro k p u v k0 k1 k2 k3 k4 hu hv
    rw [sw] at hu hv
    rw [if_neg (by omega), if_neg (by omega)] at hu
    have hu2 : leD u x := h.1 i p u x k3 (by omega) k4 (by omega) hu hx
    by_cases e1 : k = j
    · subst e1
      rw [if_pos rfl] at hv
      injection hv with hv
      subst hv
      exact hu2
    · rw [if_neg e1, if_neg (by omega)] at hv
      exact leD_trans hu2 (h.1 k i x v k0 k1 k2.symm e1 hx hv)
end Go.Proofs.Ytihghhmhgakkaaa
