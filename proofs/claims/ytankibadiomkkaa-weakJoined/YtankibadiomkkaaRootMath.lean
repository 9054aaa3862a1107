/-
  Vertices that point at no greater ones: the root of each; what it comes to when one is made to point elsewhere; that roots tell P12.2.
-/
import Derived.Test.YtankibadiomkkaaPathFix
namespace Go.Proofs.Ytankibadiomkkaa
set_option maxRecDepth 100000

/-- Each vertex points at one that is no greater, and is joined to it. -/
def UfI (n : Nat) (es : List Ed) (P : List Int) : Prop := P.length = n ∧ ∀ v : Int, 0 ≤ v ∧ v < (n : Int) → (0 ≤ atD P v ∧ atD P v ≤ v) ∧ Rch (bothW es) (atD P v) v
def rt (P : List Int) : Nat → Int → Int
  | 0, v => v
  | k + 1, v => rt P k (atD P v)
def root (P : List Int) (v : Int) : Int := rt P v.toNat v
section
variable {n : Nat} {es : List Ed} {P : List Int}
theorem uf_start : UfI n es (weak0 n) := ⟨weak0_len n, fun v hv => by rw [weak0_at hv]; exact ⟨⟨hv.1, Int.le_refl _⟩, Rch.refl _ _⟩⟩
theorem rt_self : ∀ (k : Nat) {v : Int}, atD P v = v → rt P k v = v
  | 0, _, _ => rfl
  | k + 1, v, h => by rw [rt, h]; exact rt_self k h
theorem root_self {v : Int} (h : atD P v = v) : root P v = v := rt_self _ h
theorem rt_enough (hP : UfI n es P) : ∀ (k j : Nat) (v : Int), 0 ≤ v ∧ v < (n : Int) → v.toNat ≤ k → v.toNat ≤ j → rt P k v = rt P j v
  | 0, j, v, hv, h1, h2 => by
    have h := (hP.2 v hv).1
    have e : atD P v = v := by omega
    rw [rt_self 0 e, rt_self j e]
  | k + 1, 0, v, hv, h1, h2 => by
    have h := (hP.2 v hv).1
    have e : atD P v = v := by omega
    rw [rt_self _ e, rt_self 0 e]
  | k + 1, j + 1, v, hv, h1, h2 => by
    have h := (hP.2 v hv).1
    by_cases e : atD P v = v
    · rw [rt_self _ e, rt_self _ e]
    · rw [rt, rt]
      exact rt_enough hP k j _ (by omega) (by omega) (by omega)
/-- What it points at has the same root. -/
theorem root_next (hP : UfI n es P) {v : Int} (hv : 0 ≤ v ∧ v < (n : Int)) : root P (atD P v) = root P v := by
  have h := (hP.2 v hv).1
  by_cases e : atD P v = v
  · rw [e]
  · unfold root
    obtain ⟨k, hk⟩ : ∃ k, v.toNat = k + 1 := ⟨v.toNat - 1, by omega⟩
    rw [hk, rt]
    exact rt_enough hP _ _ _ (by omega) (by omega) (by omega)
/-- From below: what holds of those that point at themselves, and is handed on from what is pointed at. -/
theorem root_ind (hP : UfI n es P) {Q : Int → Prop} (h0 : ∀ v : Int, 0 ≤ v ∧ v < (n : Int) → atD P v = v → Q v) (h1 : ∀ v : Int, 0 ≤ v ∧ v < (n : Int) → atD P v < v → Q (atD P v) → Q v) : ∀ v : Int, 0 ≤ v ∧ v < (n : Int) → Q v := by
  have key : ∀ (k : Nat) (v : Int), v.toNat ≤ k → 0 ≤ v ∧ v < (n : Int) → Q v := fun k => by
    induction k with
    | zero => exact fun v hk hv => h0 v hv (by have := (hP.2 v hv).1; omega)
    | succ k ih =>
      intro v hk hv
      have h := (hP.2 v hv).1
      by_cases e : atD P v = v
      · exact h0 v hv e
      · exact h1 v hv (by omega) (ih _ (by omega) (by omega))
  exact fun v hv => key v.toNat v (Nat.le_refl _) hv
theorem root_is (hP : UfI n es P) : ∀ v : Int, 0 ≤ v ∧ v < (n : Int) → atD P (root P v) = root P v ∧ (0 ≤ root P v ∧ root P v ≤ v) ∧ Rch (bothW es) (root P v) v :=
  root_ind hP (fun v hv e => by rw [root_self e]; exact ⟨e, ⟨hv.1, Int.le_refl _⟩, Rch.refl _ _⟩) fun v hv hl ih => by
    rw [root_next hP hv] at ih
    exact ⟨ih.1, ⟨ih.2.1.1, by omega⟩, ih.2.2.trans (hP.2 v hv).2⟩
/-- One vertex is made to point at another of its own tree. -/
theorem root_short {x y : Int} (hP : UfI n es P) (hx : 0 ≤ x ∧ x < (n : Int)) (hy : 0 ≤ y ∧ y ≤ x) (hxy : y = x → atD P x = x) (he : root P y = root P x) : UfI n es (P.set x.toNat y) ∧ ∀ v : Int, 0 ≤ v ∧ v < (n : Int) → root (P.set x.toNat y) v = root P v := by
  have hU : UfI n es (P.set x.toNat y) := ⟨by rw [List.length_set]; exact hP.1, fun v hv => by
    rw [atD_set hP.1 hx hv]
    by_cases e : v = x
    · rw [if_pos e, e]
      exact ⟨hy, (both_symm ((root_is hP y ⟨hy.1, by omega⟩).2.2)).trans (by rw [he]; exact (root_is hP x hx).2.2)⟩
    · rw [if_neg e]
      exact hP.2 v hv⟩
  refine ⟨hU, root_ind hU (fun v hv e => ?_) (fun v hv hl ih => ?_)⟩
  · rw [root_self e]
    rw [atD_set hP.1 hx hv] at e
    by_cases ev : v = x
    · rw [if_pos ev] at e
      rw [ev, root_self (hxy (by omega))]
    · rw [if_neg ev] at e
      rw [root_self e]
  · rw [← root_next hU hv, ih, atD_set hP.1 hx hv]
    by_cases ev : v = x
    · rw [if_pos ev, ev]; exact he
    · rw [if_neg ev, root_next hP hv]
/-- It is made to point where that points which it pointed at. -/
theorem root_half {x : Int} (hP : UfI n es P) (hx : 0 ≤ x ∧ x < (n : Int)) : UfI n es (P.set x.toNat (atD P (atD P x))) ∧ ∀ v : Int, 0 ≤ v ∧ v < (n : Int) → root (P.set x.toNat (atD P (atD P x))) v = root P v := by
  have h1 := (hP.2 x hx).1
  have h2 := (hP.2 (atD P x) (by omega)).1
  exact root_short hP hx (by omega) (fun e => by omega) (by rw [root_next hP (by omega), root_next hP hx])
/-- It is made to point at its root. -/
theorem root_flat {x : Int} (hP : UfI n es P) (hx : 0 ≤ x ∧ x < (n : Int)) : UfI n es (P.set x.toNat (root P x)) ∧ ∀ v : Int, 0 ≤ v ∧ v < (n : Int) → root (P.set x.toNat (root P x)) v = root P v := by
  obtain ⟨h1, h2, _⟩ := root_is hP x hx
  exact root_short hP hx h2 (fun e => by rw [e] at h1; exact h1) (root_self h1)
/-- One root is made to point at a lesser one. -/
theorem root_link {a b : Int} (hP : UfI n es P) (ha : 0 ≤ a ∧ a < b) (hb : b < (n : Int)) (ea : atD P a = a) (eb : atD P b = b) (hj : Rch (bothW es) a b) : UfI n es (P.set b.toNat a) ∧ ∀ v : Int, 0 ≤ v ∧ v < (n : Int) → root (P.set b.toNat a) v = if root P v = b then a else root P v := by
  have hbi : 0 ≤ b ∧ b < (n : Int) := by omega
  have hU : UfI n es (P.set b.toNat a) := ⟨by rw [List.length_set]; exact hP.1, fun v hv => by
    rw [atD_set hP.1 hbi hv]
    by_cases e : v = b
    · rw [if_pos e, e]
      exact ⟨by omega, hj⟩
    · rw [if_neg e]
      exact hP.2 v hv⟩
  refine ⟨hU, root_ind hU (fun v hv e => ?_) (fun v hv hl ih => ?_)⟩
  · rw [root_self e]
    rw [atD_set hP.1 hbi hv] at e
    by_cases ev : v = b
    · rw [if_pos ev] at e; omega
    · rw [if_neg ev] at e
      rw [root_self e, if_neg ev]
  · rw [← root_next hU hv, ih, atD_set hP.1 hbi hv]
    by_cases ev : v = b
    · rw [if_pos ev, ev, root_self ea, root_self eb, if_pos rfl, if_neg (by omega)]
    · rw [if_neg ev, root_next hP hv]
/-- The roots of an edge's ends, made one: what had one root has one still, and so have they. -/
theorem root_tie {e : Ed} {u w : Int} (hP : UfI n es P) (hg : InG n es) (he : e ∈ es) (hu : (u = e.1 ∧ w = e.2.1) ∨ (u = e.2.1 ∧ w = e.1)) (hl : root P u < root P w) :
    UfI n es (P.set (root P w).toNat (root P u)) ∧ (∀ x y : Int, (0 ≤ x ∧ x < (n : Int)) → (0 ≤ y ∧ y < (n : Int)) → root P x = root P y → root (P.set (root P w).toNat (root P u)) x = root (P.set (root P w).toNat (root P u)) y) ∧
      root (P.set (root P w).toNat (root P u)) u = root (P.set (root P w).toNat (root P u)) w := by
  obtain ⟨f0, f1, t0, t1, _⟩ := hg e he
  have hui : 0 ≤ u ∧ u < (n : Int) := by omega
  have hwi : 0 ≤ w ∧ w < (n : Int) := by omega
  obtain ⟨a1, a2, a3⟩ := root_is hP u hui
  obtain ⟨b1, b2, b3⟩ := root_is hP w hwi
  have hbe : e ∈ bothW es := List.mem_append.2 (.inl he)
  have huw : Rch (bothW es) u w := by
    rcases hu with ⟨h1, h2⟩ | ⟨h1, h2⟩
    · rw [h1, h2]; exact (Rch.refl _ e.1).step hbe
    · rw [h1, h2]; exact (Rch.refl _ (e.2.1)).step (both_turn hbe)
  obtain ⟨hU, hr⟩ := root_link hP (a := root P u) (b := root P w) (by omega) (by omega) a1 b1 ((a3.trans huw).trans (both_symm b3))
  refine ⟨hU, fun x y hx hy hxy => ?_, ?_⟩
  · rw [hr x hx, hr y hy, hxy]
  · rw [hr u hui, hr w hwi, if_pos rfl, if_neg (by omega)]
/-- The roots are what P12.2 asks for, once each edge's ends have one. -/
theorem root_weak {l : List Int} (hP : UfI n es P) (hr : ∀ e ∈ es, root P e.1 = root P e.2.1) (hg : InG n es) (hl : l.length = n) (ha : ∀ v : Int, 0 ≤ v ∧ v < (n : Int) → atD l v = root P v) : WeakL n es l :=
  weak_fix ⟨hl, fun v hv => by
    obtain ⟨_, h2, h3⟩ := root_is hP v hv
    rw [ha v hv]
    exact ⟨by omega, h3⟩⟩ (fun v hv => by rw [ha v hv]; exact (root_is hP v hv).2.1.2) fun e he => by
    obtain ⟨f0, f1, t0, t1, _⟩ := hg e he
    rw [ha _ ⟨f0, f1⟩, ha _ ⟨t0, t1⟩]
    exact hr e he
end
end Go.Proofs.Ytankibadiomkkaa
