/-
  P12.4 in plain mathematics: the least vertex that is reached and reaches, as the document finds it.
-/
import Derived.Test.YtankibadiomkkabPathLists
namespace Go.Proofs.Ytankibadiomkkab
set_option maxRecDepth 100000

def mutB (n : Nat) (es : List Ed) (v u : Nat) : Bool := atB (reachF n es v) (u : Int) && atB (reachF n es u) (v : Int)
def strongV (n : Nat) (es : List Ed) (v : Nat) : Nat := (List.range n).findIdx fun u => mutB n es v u
def strongF (n : Nat) (es : List Ed) : List Int := (List.range n).map fun v : Nat => (strongV n es v : Int)
theorem mutB_iff {n : Nat} {es : List Ed} {v u : Nat} (hg : InG n es) (hv : v < n) (hu : u < n) : mutB n es v u = true ↔ Mut es (v : Int) (u : Int) := by
  have h1 := (reach_ok (s := (v : Int)) hg ⟨by omega, by omega⟩).2 (u : Int) ⟨by omega, by omega⟩
  have h2 := (reach_ok (s := (u : Int)) hg ⟨by omega, by omega⟩).2 (v : Int) ⟨by omega, by omega⟩
  unfold mutB Mut
  rw [Bool.and_eq_true, h1, h2]
theorem strongV_is {n : Nat} {es : List Ed} {v c : Nat} (hc : c < n) (h1 : mutB n es v c = true) (h2 : ∀ u, u < c → mutB n es v u = false) : strongV n es v = c := by
  unfold strongV
  rw [List.findIdx_eq (by simpa using hc)]
  exact ⟨by simpa using h1, fun j hj => by simpa using h2 j hj⟩
theorem strongV_some {n : Nat} {es : List Ed} {v : Nat} (hg : InG n es) (hv : v < n) : strongV n es v < n ∧ mutB n es v (strongV n es v) = true ∧ ∀ u, u < strongV n es v → mutB n es v u = false := by
  have hvv : mutB n es v v = true := (mutB_iff hg hv hv).2 ⟨Rch.refl _ _, Rch.refl _ _⟩
  have hlt : strongV n es v < (List.range n).length := by
    unfold strongV
    exact List.findIdx_lt_length_of_exists ⟨v, by simpa using hv, hvv⟩
  have h1 := List.findIdx_getElem (p := fun u => mutB n es v u) (xs := List.range n) (w := hlt)
  have h1' : mutB n es v ((List.range n)[strongV n es v]'hlt) = true := h1
  rw [List.getElem_range] at h1'
  refine ⟨by simpa using hlt, h1', fun u hu => ?_⟩
  have := List.not_of_lt_findIdx (p := fun u => mutB n es v u) (xs := List.range n) (i := u) hu
  simpa using this
theorem strongF_len (n : Nat) (es : List Ed) : (strongF n es).length = n := by simp [strongF]
theorem strongF_at {n : Nat} {es : List Ed} {v : Nat} (hv : v < n) : (strongF n es)[v]? = some (strongV n es v : Int) := by
  unfold strongF
  rw [List.getElem?_map, List.getElem?_range hv]
  rfl
theorem strong_ok {n : Nat} {es : List Ed} (hg : InG n es) : StrongL n es (strongF n es) := by
  refine ⟨strongF_len n es, fun v hv => ?_⟩
  obtain ⟨k, rfl⟩ : ∃ k : Nat, v = k := ⟨v.toNat, by omega⟩
  have hk : k < n := by omega
  rw [atD_at (strongF_at (es := es) hk)]
  obtain ⟨h1, h2, h3⟩ := strongV_some hg hk
  refine ⟨⟨by omega, by omega⟩, ((mutB_iff hg hk h1).1 h2).symm, fun u hu hm => ?_⟩
  obtain ⟨j, rfl⟩ : ∃ j : Nat, u = j := ⟨u.toNat, by omega⟩
  rcases Nat.lt_or_ge j (strongV n es k) with h | h
  · have := h3 j h
    rw [(mutB_iff hg hk (by omega)).2 hm.symm] at this
    cases this
  · omega
theorem strong_uniq {n : Nat} {es : List Ed} {l : List Int} (hg : InG n es) (h : StrongL n es l) : l = strongF n es := LeastL.uniq h (strong_ok hg)
end Go.Proofs.Ytankibadiomkkab
