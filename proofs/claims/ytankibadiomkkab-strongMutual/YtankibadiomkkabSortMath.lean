/-
  P4.2 in plain mathematics: edges in order.
-/
import Derived.Test.YtankibadiomkkabGraphMath
import Derived.Test.YtankibadiomkkabCmpInt
import Derived.Shelf.SlSortCmp.NoneTotal
namespace Go.Proofs.Ytankibadiomkkab
set_option maxRecDepth 100000
open Go.Sort

/-- From, then To, then Weight. -/
def cmpE (x y : Ed) : Int := if cmpI x.1 y.1 ≠ 0 then cmpI x.1 y.1 else if cmpI x.2.1 y.2.1 ≠ 0 then cmpI x.2.1 y.2.1 else cmpI x.2.2 y.2.2
/-- x stands ahead of y. -/
def ltE (x y : Ed) : Prop := x.1 < y.1 ∨ (x.1 = y.1 ∧ (x.2.1 < y.2.1 ∨ (x.2.1 = y.2.1 ∧ x.2.2 < y.2.2)))
/-- The same, told. -/
def ltEb (x y : Ed) : Bool := decide (x.1 < y.1 ∨ (x.1 = y.1 ∧ (x.2.1 < y.2.1 ∨ (x.2.1 = y.2.1 ∧ x.2.2 < y.2.2))))
theorem ltEb_true {x y : Ed} : ltEb x y = true ↔ ltE x y := by unfold ltEb ltE; exact decide_eq_true_iff
theorem ltEb_false {x y : Ed} : ltEb x y = false ↔ ¬ ltE x y := by unfold ltEb ltE; exact decide_eq_false_iff_not
theorem cmpE_lt (x y : Ed) : cmpE x y < 0 ↔ ltE x y := by
  unfold cmpE cmpI ltE
  constructor
  · intro h; split at h <;> (try split at h) <;> omega
  · intro h; split <;> (try split) <;> omega
theorem ltOf_cmp (x y : Ed) : ltOf cmpE x y = ltEb x y := by
  unfold ltOf ltEb
  congr 1
  exact propext (cmpE_lt x y)
theorem swoE : SWO (ltOf cmpE) where
  irrefl x := by rw [ltOf_cmp, ltEb_false]; unfold ltE; omega
  trans x y z h1 h2 := by
    rw [ltOf_cmp, ltEb_true] at *
    unfold ltE at *; omega
  ntrans x y z h1 h2 := by
    rw [ltOf_cmp, ltEb_false] at *
    unfold ltE at *; omega
theorem totE (x y : Ed) (h1 : ltOf cmpE x y = false) (h2 : ltOf cmpE y x = false) : x = y := by
  rw [ltOf_cmp, ltEb_false] at h1 h2
  unfold ltE at h1 h2
  have e1 : x.1 = y.1 := by omega
  have e2 : x.2.1 = y.2.1 := by omega
  have e3 : x.2.2 = y.2.2 := by omega
  exact Prod.ext e1 (Prod.ext e2 e3)
/-- Not behind. -/
def leE (x y : Ed) : Bool := !ltOf cmpE y x
/-- Edges in order. -/
def sortE (es : List Ed) : List Ed := es.mergeSort fun x y => !ltOf cmpE y x

theorem leE_iff (x y : Ed) : leE x y = true ↔ ¬ ltE y x := by unfold leE; rw [ltOf_cmp, Bool.not_eq_true', ltEb_false]
theorem leE_trans (x y z : Ed) (h1 : leE x y = true) (h2 : leE y z = true) : leE x z = true := by rw [leE_iff] at *; unfold ltE at *; omega
theorem leE_total (x y : Ed) : (leE x y || leE y x) = true := by
  rw [Bool.or_eq_true, leE_iff, leE_iff]; unfold ltE; omega
theorem leE_anti (x y : Ed) (h1 : leE x y = true) (h2 : leE y x = true) : x = y := by
  unfold leE at h1 h2
  exact totE x y (by simpa using h2) (by simpa using h1)
theorem sortE_perm (es : List Ed) : (sortE es).Perm es := List.mergeSort_perm _ _
theorem sortE_len (es : List Ed) : (sortE es).length = es.length := (sortE_perm es).length_eq
theorem sortE_sorted (es : List Ed) : (sortE es).Pairwise fun x y => leE x y = true := by
  have := List.pairwise_mergeSort (le := leE) leE_trans leE_total es
  exact this
/-- What is in order and has the same edges is the same list. -/
theorem sorted_uniq {l es : List Ed} (hp : l.Perm es) (hs : l.Pairwise fun x y => leE x y = true) : l = sortE es := by
  refine List.Perm.eq_of_pairwise (le := fun x y => leE x y = true) ?_ hs (sortE_sorted es) (hp.trans (sortE_perm es).symm)
  intro a b _ _ h1 h2
  exact leE_anti a b h1 h2
theorem sort_sort (es : List Ed) : sortE (sortE es) = sortE es := (sorted_uniq (sortE_perm es) (sortE_sorted es)).symm ▸ (sorted_uniq (l := sortE es) (es := sortE es) (List.Perm.refl _) (sortE_sorted es)).symm
theorem sort_congr {l es : List Ed} (hp : l.Perm es) : sortE l = sortE es := sorted_uniq ((sortE_perm l).trans hp) (sortE_sorted l)
end Go.Proofs.Ytankibadiomkkab
