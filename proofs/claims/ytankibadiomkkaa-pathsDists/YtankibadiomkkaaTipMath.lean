/-
  Heaps in plain mathematics: lists of tips, in which none stands ahead of its parent.
-/
import Derived.Test.YtankibadiomkkaaTipMem
namespace Go.Proofs.Ytankibadiomkkaa
set_option maxRecDepth 100000

/-- Ahead, by the sum. -/
def ltY (x y : Tp) : Prop := x.1 < y.1
def ltYb (x y : Tp) : Bool := decide (x.1 < y.1)
theorem ltYb_true {x y : Tp} : ltYb x y = true ↔ ltY x y := by unfold ltYb ltY; simp
theorem ltYb_false {x y : Tp} : ltYb x y = false ↔ ¬ ltY x y := by unfold ltYb ltY; simp
/-- Not behind. -/
def leY (x y : Tp) : Prop := ¬ ltY y x
theorem leY_trans {x y z : Tp} (h1 : leY x y) (h2 : leY y z) : leY x z := by unfold leY ltY at *; omega
theorem leY_refl (x : Tp) : leY x x := by unfold leY ltY; omega
theorem leY_of_lt {x y : Tp} (h : ltY x y) : leY x y := by unfold leY ltY at *; omega
/-- All children, up to n, of the places from m on stand in order. -/
def TpF (hs : List Tp) (m n : Nat) : Prop := ∀ k p x y, 0 < k → k < n → p = (k - 1) / 2 → m ≤ p → hs[p]? = some x → hs[k]? = some y → leY x y
/-- .. but for the place i, whose parent (from m on) is not behind its children. -/
def TpD (hs : List Tp) (m n i : Nat) : Prop :=
  (∀ k p x y, 0 < k → k < n → p = (k - 1) / 2 → m ≤ p → p ≠ i → hs[p]? = some x → hs[k]? = some y → leY x y) ∧
  (∀ k p x y, 0 < k → k < n → (k - 1) / 2 = i → 0 < i → p = (i - 1) / 2 → m ≤ p → hs[p]? = some x → hs[k]? = some y → leY x y)
theorem TpD.start {hs : List Tp} {m n : Nat} (h : TpF hs (m + 1) n) : TpD hs m n m :=
  ⟨fun k p x y h0 h1 h2 h3 h4 hx hy => h k p x y h0 h1 h2 (by omega) hx hy, fun k p x y h0 h1 h2 h3 h4 h5 => by omega⟩
/-- None of its children is ahead of i: all is in order. -/
theorem TpD.stop {hs : List Tp} {m n i : Nat} (h : TpD hs m n i) (hc : ∀ k x y, 0 < k → k < n → (k - 1) / 2 = i → hs[i]? = some x → hs[k]? = some y → leY x y) : TpF hs m n := fun k p x y h0 h1 h2 h3 hx hy => by
  by_cases e : p = i
  · subst e
    exact hc k x y h0 h1 h2.symm hx hy
  · exact h.1 k p x y h0 h1 h2 h3 e hx hy
theorem swapY_at {hs : List Tp} {i j : Nat} {x y : Tp} (hi : hs[i]? = some x) (hj : hs[j]? = some y) (k : Nat) : ((hs.set i y).set j x)[k]? = if k = j then some x else if k = i then some y else hs[k]? := by
  have li := (List.getElem?_eq_some_iff.1 hi).1
  have lj := (List.getElem?_eq_some_iff.1 hj).1
  by_cases e1 : k = j
  · subst e1
    rw [if_pos rfl, List.getElem?_set_self (by simpa using lj)]
  · rw [if_neg e1, List.getElem?_set_ne (fun h => e1 h.symm)]
    by_cases e2 : k = i
    · subst e2
      rw [if_pos rfl, List.getElem?_set_self li]
    · rw [if_neg e2, List.getElem?_set_ne (fun h => e2 h.symm)]
theorem swapY_perm {hs : List Tp} {i j : Nat} {x y : Tp} (hi : hs[i]? = some x) (hj : hs[j]? = some y) : ((hs.set i y).set j x).Perm hs := by
  obtain ⟨li, rfl⟩ := List.getElem?_eq_some_iff.1 hi
  obtain ⟨lj, rfl⟩ := List.getElem?_eq_some_iff.1 hj
  exact List.set_set_perm li lj
/-- i and its child j, which is ahead of it and not behind the other one, are exchanged. -/
theorem TpD.down {hs : List Tp} {m n i j : Nat} {x y : Tp} (h : TpD hs m n i) (hm : m ≤ i) (h0 : 0 < j) (hj : j < n) (hp : (j - 1) / 2 = i) (hx : hs[i]? = some x) (hy : hs[j]? = some y) (hlt : ltY y x)
    (hc : ∀ k z, 0 < k → k < n → (k - 1) / 2 = i → hs[k]? = some z → leY y z) : TpD ((hs.set i y).set j x) m n j := by
  have sw := swapY_at hx hy
  constructor
  · intro k p u v k0 k1 k2 k3 k4 hu hv
    rw [sw] at hu hv
    rw [if_neg k4] at hu
    by_cases e1 : k = j
    · subst e1
      have : p = i := by omega
      subst this
      rw [if_pos rfl] at hu hv
      injection hu with hu
      injection hv with hv
      subst hu hv
      exact leY_of_lt hlt
    · rw [if_neg e1] at hv
      by_cases e2 : p = i
      · subst e2
        rw [if_pos rfl] at hu
        injection hu with hu
        subst hu
        rw [if_neg (by omega)] at hv
        exact hc k v k0 k1 k2.symm hv
      · rw [if_neg e2] at hu
        by_cases e3 : k = i
        · subst e3
          rw [if_pos rfl] at hv
          injection hv with hv
          subst hv
          exact h.2 j p u y h0 hj hp k0 k2 k3 hu hy
        · rw [if_neg e3] at hv
          exact h.1 k p u v k0 k1 k2 k3 e2 hu hv
  · intro k p u v k0 k1 k2 k3 k4 k5 hu hv
    have ep : p = i := by omega
    subst ep
    rw [sw] at hu hv
    rw [if_neg (by omega), if_pos rfl] at hu
    injection hu with hu
    subst hu
    rw [if_neg (by omega), if_neg (by omega)] at hv
    exact h.1 k j y v k0 k1 k2.symm (by omega) (by omega) hy hv
/-- The root is the least. -/
theorem TpF.root {hs : List Tp} {n : Nat} (h : TpF hs 0 n) (hn : n ≤ hs.length) {x : Tp} (hx : hs[0]? = some x) : ∀ k y, k < n → hs[k]? = some y → leY x y := by
  intro k
  induction k using Nat.strongRecOn with
  | ind k ih =>
    intro y hk hy
    by_cases e : k = 0
    · subst e
      rw [hx] at hy
      injection hy with hy
      subst hy
      exact leY_refl x
    · obtain ⟨z, hz⟩ : ∃ z, hs[(k - 1) / 2]? = some z := ⟨_, List.getElem?_eq_getElem (by omega)⟩
      exact leY_trans (ih ((k - 1) / 2) (by omega) z (by omega) hz) (h k _ z y (by omega) hk rfl (Nat.zero_le _) hz hy)
/-- In order but for the place j and its parent. -/
def TpU (hs : List Tp) (n j : Nat) : Prop :=
  (∀ k p x y, 0 < k → k < n → p = (k - 1) / 2 → k ≠ j → hs[p]? = some x → hs[k]? = some y → leY x y) ∧
  (∀ k p x y, 0 < k → k < n → (k - 1) / 2 = j → 0 < j → p = (j - 1) / 2 → hs[p]? = some x → hs[k]? = some y → leY x y)
theorem TpU.start {hs : List Tp} {x : Tp} (h : TpF hs 0 hs.length) : TpU (hs ++ [x]) (hs.length + 1) hs.length := by
  constructor
  · intro k p u v k0 k1 k2 k3 hu hv
    rw [List.getElem?_append_left (by omega)] at hu hv
    exact h k p u v k0 (by omega) k2 (Nat.zero_le _) hu hv
  · intro k p u v k0 k1 k2 k3 k4
    omega
theorem TpU.stop {hs : List Tp} {n j : Nat} (h : TpU hs n j) (hc : ∀ p x y, 0 < j → p = (j - 1) / 2 → hs[p]? = some x → hs[j]? = some y → leY x y) : TpF hs 0 n := fun k p x y h0 h1 h2 _ hx hy => by
  by_cases e : k = j
  · subst e
    exact hc p x y h0 h2 hx hy
  · exact h.1 k p x y h0 h1 h2 e hx hy
theorem TpU.up {hs : List Tp} {n i j : Nat} {x y : Tp} (h : TpU hs n j) (h0 : 0 < j) (hi : i = (j - 1) / 2) (hx : hs[i]? = some x) (hy : hs[j]? = some y) (hlt : ltY y x) (hj : j < n) : TpU ((hs.set i y).set j x) n i := by
  have sw := swapY_at hx hy
  constructor
  · intro k p u v k0 k1 k2 k3 hu hv
    rw [sw] at hu hv
    by_cases e1 : k = j
    · subst e1
      have ep : p = i := by omega
      subst ep
      rw [if_neg (by omega), if_pos rfl] at hu
      rw [if_pos rfl] at hv
      injection hu with hu
      injection hv with hv
      subst hu hv
      exact leY_of_lt hlt
    · rw [if_neg e1, if_neg k3] at hv
      by_cases e2 : p = j
      · subst e2
        rw [if_pos rfl] at hu
        injection hu with hu
        subst hu
        exact h.2 k i x v k0 k1 k2.symm h0 hi hx hv
      · rw [if_neg e2] at hu
        by_cases e3 : p = i
        · subst e3
          rw [if_pos rfl] at hu
          injection hu with hu
          subst hu
          exact leY_trans (leY_of_lt hlt) (h.1 k p x v k0 k1 k2 e1 hx hv)
        · rw [if_neg e3] at hu
          exact h.1 k p u v k0 k1 k2 e1 hu hv
  · intro k p u v k0 k1 k2 k3 k4 hu hv
    rw [sw] at hu hv
    rw [if_neg (by omega), if_neg (by omega)] at hu
    have hu2 : leY u x := h.1 i p u x k3 (by omega) k4 (by omega) hu hx
    by_cases e1 : k = j
    · subst e1
      rw [if_pos rfl] at hv
      injection hv with hv
      subst hv
      exact hu2
    · rw [if_neg e1, if_neg (by omega)] at hv
      exact leY_trans hu2 (h.1 k i x v k0 k1 k2.symm e1 hx hv)
end Go.Proofs.Ytankibadiomkkaa
