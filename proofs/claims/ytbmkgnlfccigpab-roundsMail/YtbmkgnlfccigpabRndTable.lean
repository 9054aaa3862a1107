/-
  A round's mail as loops make it, edge by edge: both ways of an edge; what is too great.
-/
import Derived.Test.YtbmkgnlfccigpabRndSaid
namespace Go.Proofs.Ytbmkgnlfccigpab
set_option maxRecDepth 100000

def t0F (j : Jb) (r : Int → Ml × Bool) (es : List Ed) (u : Nat) : List Int := msgs j r es (u : Int)
def t1F (j : Jb) (r : Int → Ml × Bool) (es : List Ed) (e : Ed) (u : Nat) : List Int := msgs j r es (u : Int) ++ (if outM j r (u : Int) e then [sayJ j (r e.1).1.1 e.2.2] else [])
def t2F (j : Jb) (r : Int → Ml × Bool) (es : List Ed) (c u : Nat) : List Int := if u < c then sortN (msgs j r es (u : Int)) else msgs j r es (u : Int)
def tabF (m : Nat) (f : Nat → List Int) : List (List Int) := (List.range m).map f
theorem tabF_len (m : Nat) (f : Nat → List Int) : (tabF m f).length = m := by simp [tabF]
theorem tabF_at {m u : Nat} {f : Nat → List Int} (h : u < m) : (tabF m f)[u]? = some (f u) := by unfold tabF; rw [List.getElem?_map, List.getElem?_range h]; rfl
theorem tabF_same {m : Nat} {f g : Nat → List Int} (h : ∀ u, u < m → g u = f u) : tabF m g = tabF m f := List.map_congr_left fun u hu => h u (List.mem_range.1 hu)
theorem tabF_set {m v : Nat} {f g : Nat → List Int} {l : List Int} (hg : g v = l) (h : ∀ u, u < m → u ≠ v → g u = f u) : tabF m g = (tabF m f).set v l := by
  refine List.ext_getElem? fun u => ?_
  rcases Nat.lt_or_ge u m with hu | hu
  · rw [tabF_at hu, List.getElem?_set]
    by_cases e : v = u
    · subst e
      rw [if_pos rfl, if_pos (by rw [tabF_len]; exact hu), hg]
    · rw [if_neg e, tabF_at hu, h u hu (fun x => e x.symm)]
  · rw [List.getElem?_eq_none (by rw [tabF_len]; exact hu), List.getElem?_eq_none (by rw [List.length_set, tabF_len]; exact hu)]
section
variable {m : Nat} {j : Jb} {r : Int → Ml × Bool} {es : List Ed} {e : Ed} {i v : Nat}
theorem t0_nil : tabF m (t0F j r []) = List.replicate m [] := by
  refine List.ext_getElem? fun u => ?_
  rcases Nat.lt_or_ge u m with hu | hu
  · rw [tabF_at hu, List.getElem?_replicate, if_pos hu]; rfl
  · rw [List.getElem?_eq_none (by rw [tabF_len]; exact hu), List.getElem?_eq_none (by simpa using hu)]
theorem t1_no (h : ((wayJ j).1 && (r e.1).2) = false) : tabF m (t1F j r es e) = tabF m (t0F j r es) := tabF_same fun u _ => by
  unfold t1F t0F
  have : outM j r (u : Int) e = false := by
    unfold outM
    cases h1 : (wayJ j).1
    · rfl
    · rw [h1] at h
      have h2 : (r e.1).2 = false := by simpa using h
      rw [h2]; simp
  rw [this]; simp
theorem t1_yes (h : ((wayJ j).1 && (r e.1).2) = true) (hv : e.2.1 = (v : Int)) : tabF m (t1F j r es e) = (tabF m (t0F j r es)).set v (t0F j r es v ++ [sayJ j (r e.1).1.1 e.2.2]) := by
  rw [Bool.and_eq_true] at h
  refine tabF_set ?_ fun u _ hu => ?_
  · unfold t1F t0F
    have : outM j r (v : Int) e = true := by unfold outM; rw [h.1, h.2, hv]; simp
    rw [this]; rfl
  · unfold t1F t0F
    have : outM j r (u : Int) e = false := by
      unfold outM
      have h3 : (e.2.1 == (u : Int)) = false := by rw [hv]; simp; omega
      rw [h3]; simp
    rw [this]; simp
theorem t2_no (hx : es[i]? = some e) (h : ((wayJ j).2 && (r e.2.1).2) = false) : tabF m (t0F j r (es.take (i + 1))) = tabF m (t1F j r (es.take i) e) := tabF_same fun u _ => by
  unfold t1F t0F
  rw [take_snoc hx, msgs_snoc]
  unfold msgE
  have : inM j r (u : Int) e = false := by
    unfold inM
    cases h1 : (wayJ j).2
    · rfl
    · rw [h1] at h
      have h2 : (r e.2.1).2 = false := by simpa using h
      rw [h2]; simp
  unfold inM at this
  rw [this]
  unfold outM
  simp
theorem t2_yes (hx : es[i]? = some e) (h : ((wayJ j).2 && (r e.2.1).2) = true) (hv : e.1 = (v : Int)) : tabF m (t0F j r (es.take (i + 1))) = (tabF m (t1F j r (es.take i) e)).set v (t1F j r (es.take i) e v ++ [sayJ j (r e.2.1).1.1 e.2.2]) := by
  rw [Bool.and_eq_true] at h
  refine tabF_set ?_ fun u _ hu => ?_
  · unfold t1F t0F
    rw [take_snoc hx, msgs_snoc]
    unfold msgE
    have : inM j r (v : Int) e = true := by unfold inM; rw [h.1, h.2, hv]; simp
    unfold inM at this
    rw [this]
    unfold outM
    simp
  · unfold t1F t0F
    rw [take_snoc hx, msgs_snoc]
    unfold msgE
    have : inM j r (u : Int) e = false := by
      unfold inM
      have h3 : (e.1 == (u : Int)) = false := by rw [hv]; simp; omega
      rw [h3]; simp
    unfold inM at this
    rw [this]
    unfold outM
    simp
theorem t1_most (hx : es.length ≤ 600) : (t1F j r (es.take i) e v).length ≤ 1201 := by
  unfold t1F
  have h1 := msgs_most j r (es.take i) (v : Int)
  have h2 : (es.take i).length ≤ es.length := by simp; omega
  rw [List.length_append]
  split <;> simp <;> omega
theorem t0_most (hx : es.length ≤ 600) : (t0F j r (es.take i) v).length ≤ 1200 := by
  unfold t0F
  have h1 := msgs_most j r (es.take i) (v : Int)
  have h2 : (es.take i).length ≤ es.length := by simp; omega
  omega
theorem over_take (hx : es[i]? = some e) : overR j r (es.take (i + 1)) = (overR j r (es.take i) || ((wayJ j).1 && (r e.1).2 && decide (Jb.top j < sayJ j (r e.1).1.1 e.2.2))) := by
  unfold overR
  rw [take_snoc hx, List.any_append]; simp
theorem over_part (h : overR j r (es.take i) = true) : overR j r es = true := by
  unfold overR at *
  obtain ⟨e, he, hb⟩ := List.any_eq_true.1 h
  exact List.any_eq_true.2 ⟨e, List.mem_of_mem_take he, hb⟩
theorem s2_zero : tabF m (t2F j r es 0) = tabF m (t0F j r es) := tabF_same fun u _ => by unfold t2F t0F; rw [if_neg (by omega)]
theorem s2_all : tabF m (t2F j r es m) = mailR m j r es := List.map_congr_left fun u hu => by unfold t2F; rw [if_pos (List.mem_range.1 hu)]
theorem s2_next (c : Nat) : tabF m (t2F j r es (c + 1)) = (tabF m (t2F j r es c)).set c (sortN (msgs j r es (c : Int))) := by
  refine tabF_set ?_ fun u _ hu => ?_
  · unfold t2F; rw [if_pos (by omega)]
  · unfold t2F
    by_cases h : u < c
    · rw [if_pos (by omega), if_pos h]
    · rw [if_neg (by omega), if_neg h]
theorem s2_at {c : Nat} : t2F j r es c c = msgs j r es (c : Int) := by unfold t2F; rw [if_neg (by omega)]
end
end Go.Proofs.Ytbmkgnlfccigpab
