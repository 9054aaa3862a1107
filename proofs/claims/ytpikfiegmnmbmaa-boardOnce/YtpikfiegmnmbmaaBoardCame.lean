/-
  P15.5: whether all that was sent has come, looked at piece by piece; the sums.
-/
import Derived.Test.YtpikfiegmnmbmaaBoardMath
namespace Go.Proofs.Ytpikfiegmnmbmaa
set_option maxRecDepth 100000

theorem snoc_take {α : Type} {l : List α} {k : Nat} {x : α} (h : l[k]? = some x) : l.take (k + 1) = l.take k ++ [x] := by
  obtain ⟨h1, rfl⟩ := List.getElem?_eq_some_iff.1 h
  rw [List.take_add_one, List.getElem?_eq_getElem h1]
  rfl
/-- What one has sent to another one has come. -/
def fitB (r s : RpL) : Bool := r.sent.getD s.worker.toNat 0 == s.got.getD r.worker.toNat 0
def cameT (l : List RpL) (k : Nat) : Bool := (l.take k).all fun r => l.all (fitB r)
theorem cameB_eq (l : List RpL) : cameB l = l.all fun r => l.all (fitB r) := rfl
theorem fitB_at {x y : RpL} {kx ky : Nat} {a a' : Int} (hx : x.worker = kx) (hy : y.worker = ky) (ha : x.sent[ky]? = some a) (ha' : y.got[kx]? = some a') : fitB x y = (a == a') := by
  unfold fitB
  rw [hx, hy, Int.toNat_natCast, Int.toNat_natCast, List.getD_eq_getElem?_getD, List.getD_eq_getElem?_getD, ha, ha']
  rfl
theorem came_hit {l : List RpL} {i j : Nat} {x y : RpL} (hx : l[i]? = some x) (hy : l[j]? = some y) (h : fitB x y = false) : cameB l = false := by
  rw [cameB_eq, ← Bool.not_eq_true, List.all_eq_true]
  intro g
  have h1 := List.all_eq_true.1 (g x (List.mem_of_getElem? hx)) y (List.mem_of_getElem? hy)
  rw [h] at h1
  cases h1
theorem fit_cut {l : List RpL} {x y : RpL} {j : Nat} (hy : l[j]? = some y) (h : (l.take j).all (fitB x) = true) (h1 : fitB x y = true) : (l.take (j + 1)).all (fitB x) = true := by
  rw [snoc_take hy, List.all_append, h, List.all_cons, h1]
  rfl
theorem came_cut {l : List RpL} {x : RpL} {k : Nat} (hx : l[k]? = some x) (h : cameT l k = true) (h1 : l.all (fitB x) = true) : cameT l (k + 1) = true := by
  unfold cameT at *
  rw [snoc_take hx, List.all_append, h, List.all_cons, h1]
  rfl
theorem came_all {l : List RpL} (h : cameT l l.length = true) : cameB l = true := by
  unfold cameT at h
  rw [List.take_length] at h
  exact h
theorem sumR_cut {f : RpL → Int} {l : List RpL} {k : Nat} {x : RpL} (hx : l[k]? = some x) : sumR f (l.take (k + 1)) = IntKind.i64.wrap (sumR f (l.take k) + f x) := by
  rw [snoc_take hx, sumR_snoc]
theorem may_all {b : BdL} (h : mayBd b = true) : ∀ r ∈ b.reps, inR b.workers r = true := fun r hr => by
  obtain ⟨i, hi, rfl⟩ := List.getElem_of_mem hr
  have := ((mayBd_iff.1 h).2 i _ hi (List.getElem?_eq_getElem hi)).1
  unfold stE at this
  split at this
  · assumption
  · cases this
theorem rdE_no {b : BdL} (h : mayBd b = false) : rdE b = 9 := by rw [rdE, if_neg (by rw [h]; decide)]
theorem rdE_wait {b : BdL} (h : mayBd b = true) (h2 : ¬ (b.workers ≤ (b.reps.length : Int) ∧ cameB b.reps = true)) : rdE b = 12 := by rw [rdE, if_pos h, if_neg h2]
theorem rdE_yes {b : BdL} (h : mayBd b = true) (h2 : b.workers ≤ (b.reps.length : Int) ∧ cameB b.reps = true) : rdE b = 0 := by rw [rdE, if_pos h, if_pos h2]
theorem rdA_no {b : BdL} (f : RpL → Int) (h : rdE b ≠ 0) : rdA b f = 0 := by rw [rdA, if_neg h]
theorem rdA_yes {b : BdL} (f : RpL → Int) (h : rdE b = 0) : rdA b f = sumR f b.reps := by rw [rdA, if_pos h]
end Go.Proofs.Ytpikfiegmnmbmaa
