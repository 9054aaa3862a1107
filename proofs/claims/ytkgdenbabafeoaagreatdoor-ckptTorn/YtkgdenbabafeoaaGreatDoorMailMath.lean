/-
  P8.1 to P8.4 in plain mathematics: mail in order, and the least of each vertex's.
-/
import Derived.Test.YtkgdenbabafeoaaGreatDoorMailMem
namespace Go.Proofs.YtkgdenbabafeoaaGreatDoor
set_option maxRecDepth 100000

/-- x stands ahead of y. -/
def ltM (x y : Ml) : Prop := x.1 < y.1 ∨ (x.1 = y.1 ∧ x.2 < y.2)
/-- The same, told. -/
def ltMb (x y : Ml) : Bool := decide (x.1 < y.1 ∨ (x.1 = y.1 ∧ x.2 < y.2))
theorem ltMb_true {x y : Ml} : ltMb x y = true ↔ ltM x y := by unfold ltMb ltM; exact decide_eq_true_iff
theorem ltMb_false {x y : Ml} : ltMb x y = false ↔ ¬ ltM x y := by unfold ltMb ltM; exact decide_eq_false_iff_not
/-- Not behind. -/
def leM (x y : Ml) : Bool := !ltMb y x
theorem leM_iff (x y : Ml) : leM x y = true ↔ ¬ ltM y x := by unfold leM; rw [Bool.not_eq_true', ltMb_false]
theorem leM_trans (x y z : Ml) (h1 : leM x y = true) (h2 : leM y z = true) : leM x z = true := by rw [leM_iff] at *; unfold ltM at *; omega
theorem leM_total (x y : Ml) : (leM x y || leM y x) = true := by
  rw [Bool.or_eq_true, leM_iff, leM_iff]; unfold ltM; omega
theorem leM_refl (x : Ml) : leM x x = true := by rw [leM_iff]; unfold ltM; omega
theorem leM_anti (x y : Ml) (h1 : leM x y = true) (h2 : leM y x = true) : x = y := by
  rw [leM_iff] at h1 h2
  unfold ltM at h1 h2
  have e1 : x.1 = y.1 := by omega
  have e2 : x.2 = y.2 := by omega
  exact Prod.ext e1 e2
/-- Mail in order. -/
def sortM (es : List Ml) : List Ml := es.mergeSort fun x y => leM x y
/-- It is in order. -/
def InM (l : List Ml) : Prop := l.Pairwise fun x y => leM x y = true
theorem sortM_perm (es : List Ml) : (sortM es).Perm es := List.mergeSort_perm _ _
theorem sortM_len (es : List Ml) : (sortM es).length = es.length := (sortM_perm es).length_eq
theorem sortM_sorted (es : List Ml) : InM (sortM es) := List.pairwise_mergeSort (le := leM) leM_trans leM_total es
/-- What is in order and has the same mail is the same list. -/
theorem sortedM_uniq {l es : List Ml} (hp : l.Perm es) (hs : InM l) : l = sortM es := by
  refine List.Perm.eq_of_pairwise (le := fun x y => leM x y = true) ?_ hs (sortM_sorted es) (hp.trans (sortM_perm es).symm)
  intro a b _ _ h1 h2
  exact leM_anti a b h1 h2
theorem sortM_congr {l es : List Ml} (hp : l.Perm es) : sortM l = sortM es := sortedM_uniq ((sortM_perm l).trans hp) (sortM_sorted l)
theorem sortM_id {l : List Ml} (h : InM l) : sortM l = l := (sortedM_uniq (List.Perm.refl l) h).symm
/-- Each stands not ahead of the one ahead of it. -/
def SrtM (l : List Ml) : Prop := ∀ i x y, l[i]? = some x → l[i + 1]? = some y → ¬ ltM y x
theorem srtM_in : ∀ {l : List Ml}, SrtM l → InM l
  | [], _ => List.Pairwise.nil
  | [x], _ => by simp [InM]
  | x :: y :: l, h => by
    have ht : InM (y :: l) := srtM_in fun i a b ha hb => h (i + 1) a b (by simpa using ha) (by simpa using hb)
    refine List.Pairwise.cons (fun z hz => ?_) ht
    have hxy : leM x y = true := (leM_iff _ _).2 (h 0 x y rfl rfl)
    rcases List.mem_cons.1 hz with rfl | hz
    · exact hxy
    · exact leM_trans _ _ _ hxy (List.rel_of_pairwise_cons ht hz)
theorem in_srtM {l : List Ml} (h : InM l) : SrtM l := fun i x y hx hy => by
  obtain ⟨hi, rfl⟩ := List.getElem?_eq_some_iff.1 hx
  obtain ⟨hj, rfl⟩ := List.getElem?_eq_some_iff.1 hy
  exact (leM_iff _ _).1 (List.pairwise_iff_getElem.1 h i (i + 1) hi hj (by omega))
/-- Told. -/
def srtMb : List Ml → Bool
  | x :: y :: l => !ltMb y x && srtMb (y :: l)
  | _ => true
theorem srtMb_iff : ∀ (l : List Ml), srtMb l = true ↔ SrtM l
  | [] => ⟨fun _ i x y h => by simp at h, fun _ => rfl⟩
  | [x] => ⟨fun _ i a b _ h => by simp at h, fun _ => rfl⟩
  | x :: y :: l => by
    rw [srtMb, Bool.and_eq_true, srtMb_iff (y :: l), Bool.not_eq_true', ltMb_false]
    constructor
    · rintro ⟨h1, h2⟩ i a b ha hb
      cases i with
      | zero => simp at ha hb; subst ha hb; exact h1
      | succ i => exact h2 i a b (by simpa using ha) (by simpa using hb)
    · intro h
      exact ⟨h 0 x y rfl rfl, fun i a b ha hb => h (i + 1) a b (by simpa using ha) (by simpa using hb)⟩
theorem srtMb_false {l : List Ml} : srtMb l = false ↔ ¬ SrtM l := by rw [← srtMb_iff, Bool.not_eq_true]

/-- Which error P8.2 names. -/
def errS (n : Nat) : Int := if n > 5000 then 1 else 0
/-- Which error P8.4 names. -/
def errL (l : List Ml) : Int := if l.length > 5000 then 1 else if srtMb l then 0 else 3
/-- Is it the first of its To? -/
def keepB (l : List Ml) (i : Nat) : Bool := i == 0 || decide ((l[i]?).map Prod.fst ≠ (l[i - 1]?).map Prod.fst)
/-- Those of the first k that are. -/
def lowT (l : List Ml) (k : Nat) : List Ml := ((List.range k).filter (keepB l)).filterMap fun i => l[i]?
theorem lowT_zero (l : List Ml) : lowT l 0 = [] := rfl
theorem lowT_yes {l : List Ml} {k : Nat} {x : Ml} (hx : l[k]? = some x) (hk : keepB l k = true) : lowT l (k + 1) = lowT l k ++ [x] := by
  unfold lowT
  rw [List.range_succ, List.filter_append, List.filterMap_append]
  simp [hk, hx]
theorem lowT_no {l : List Ml} {k : Nat} (hk : keepB l k = false) : lowT l (k + 1) = lowT l k := by
  unfold lowT
  rw [List.range_succ, List.filter_append, List.filterMap_append]
  simp [hk]
theorem lowT_len (l : List Ml) (k : Nat) : (lowT l k).length ≤ k := by
  unfold lowT
  refine Nat.le_trans (List.length_filterMap_le _ _) (Nat.le_trans (List.length_filter_le _ _) ?_)
  simp
/-- P8.4's answer. -/
def lowM (l : List Ml) : List Ml := lowT l l.length
theorem keepB_zero (l : List Ml) : keepB l 0 = true := rfl
theorem keepB_succ {l : List Ml} {k : Nat} {x y : Ml} (hx : l[k + 1]? = some x) (hy : l[k]? = some y) : keepB l (k + 1) = decide (x.1 ≠ y.1) := by
  unfold keepB
  simp [hx, hy]
/-- All mail of some lists. -/
def sumM (f : List (List Ml)) : Nat := (f.map List.length).sum
theorem sumM_take {f : List (List Ml)} {k : Nat} {l : List Ml} (h : f[k]? = some l) : sumM (f.take (k + 1)) = sumM (f.take k) + l.length := by
  unfold sumM
  rw [take_snoc h]
  simp
theorem sumM_le (f : List (List Ml)) (k : Nat) : sumM (f.take k) ≤ sumM f := by
  have h : sumM f = sumM (f.take k) + sumM (f.drop k) := by
    have := congrArg sumM (List.take_append_drop k f)
    unfold sumM at *
    rw [← this, List.map_append, List.sum_append]
  omega
theorem sumM_flat (f : List (List Ml)) : f.flatten.length = sumM f := by unfold sumM; rw [List.length_flatten]
/-- Are all in order? -/
def allB (f : List (List Ml)) : Bool := f.all srtMb
/-- Which error P8.3 names. -/
def errM (f : List (List Ml)) : Int := if f.length > 5000 ∨ sumM f > 5000 then 1 else if allB f then 0 else 3
end Go.Proofs.YtkgdenbabafeoaaGreatDoor
