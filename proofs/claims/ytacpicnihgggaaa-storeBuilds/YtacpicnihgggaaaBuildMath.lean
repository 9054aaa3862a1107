/-
  P7.1 in plain mathematics: the bytes of a part.
-/
import Derived.Test.YtacpicnihgggaaaHopsPut
import Derived.Test.YtacpicnihgggaaaHopsLib
import Derived.Test.YtacpicnihgggaaaWrapWalk
namespace Go.Proofs.Ytacpicnihgggaaa
set_option maxRecDepth 100000

theorem sortE_in {n : Int} {es : List Ed} (h : faultE n es = 0) : ∀ e ∈ sortE es, 0 ≤ e.1 ∧ e.1 < n ∧ 0 ≤ e.2.1 ∧ e.2.1 < n ∧ 0 ≤ e.2.2 ∧ e.2.2 ≤ 1099511627776 := fun e he => in_of_out ((fault_ok h).2.2.2 e ((sortE_perm es).mem_iff.1 he))
theorem hops_pairs (es : List Ed) (v : Int) : (hopsL (sortE es) v).Pairwise fun x y => ¬ ltH y x := by
  unfold hopsL
  rw [List.pairwise_map]
  refine List.Pairwise.imp_of_mem ?_ ((sortE_sorted es).filter fun e => e.1 == v)
  intro a b ha hb hab
  have h1 := (List.mem_filter.1 ha).2
  have h2 := (List.mem_filter.1 hb).2
  simp only [beq_iff_eq] at h1 h2
  rw [leE_iff] at hab
  unfold ltE at hab
  unfold ltH
  simp only
  omega
theorem hops_mem {n : Int} {es : List Ed} (h : faultE n es = 0) {v : Int} : ∀ x ∈ hopsL (sortE es) v, 0 ≤ x.1 ∧ x.1 < n ∧ 0 ≤ x.2 ∧ x.2 ≤ 1099511627776 := by
  intro x hx
  unfold hopsL at hx
  obtain ⟨e, he, rfl⟩ := List.mem_map.1 hx
  have := sortE_in h e (List.mem_filter.1 he).1
  exact ⟨this.2.2.1, this.2.2.2.1, this.2.2.2.2.1, this.2.2.2.2.2⟩
theorem hops_len6 {n : Int} {es : List Ed} (h : faultE n es = 0) (v : Int) : (hopsL (sortE es) v).length ≤ 600 := by
  have h1 := hops_len (sortE es) v
  rw [sortE_len] at h1
  have := (fault_ok h).2.2.1
  omega
theorem hops_srt (es : List Ed) (v : Int) : SrtH (hopsL (sortE es) v) := by
  intro i x y hx hy
  obtain ⟨h1, rfl⟩ := List.getElem?_eq_some_iff.1 hx
  obtain ⟨h2, rfl⟩ := List.getElem?_eq_some_iff.1 hy
  exact List.pairwise_iff_getElem.1 (hops_pairs es v) i (i + 1) h1 h2 (by omega)
theorem good_of {l : List Hp} {n : Int} (hn : n ≤ 200) (hl : l.length ≤ 600) (hs : SrtH l) (hm : ∀ x ∈ l, 0 ≤ x.1 ∧ x.1 < n ∧ 0 ≤ x.2 ∧ x.2 ≤ 1099511627776) : GoodH l := by
  have hg : ∀ (i : Nat) (hi : i < l.length), (l.map Prod.fst).getD i 0 = l[i].1 := fun i hi => by
    rw [List.getD_eq_getElem?_getD, List.getElem?_map, List.getElem?_eq_getElem hi]; rfl
  refine ⟨.inr (.inr (.inr ⟨rfl, by rw [List.length_map]; omega, fun i hi => ?_, fun i hi => ?_⟩)), fun m hmm => ?_⟩
  · rw [List.length_map] at hi
    rw [hg i hi]
    have := hm _ (List.getElem_mem hi)
    omega
  · rw [List.length_map] at hi
    rw [hg i (by omega), hg (i + 1) hi]
    have := hs i _ _ (List.getElem?_eq_getElem (by omega)) (List.getElem?_eq_getElem hi)
    unfold ltH at this
    omega
  · obtain ⟨x, hx, rfl⟩ := List.mem_map.1 hmm
    have := hm x hx
    omega
theorem good_hops {n : Int} {es : List Ed} (h : faultE n es = 0) (v : Int) : GoodH (hopsL (sortE es) v) := good_of (fault_ok h).2.1 (hops_len6 h v) (hops_srt es v) (hops_mem h)
theorem turn_fault {n : Int} {es : List Ed} (h : faultE n es = 0) : faultE n (es.map turnE) = 0 := by
  obtain ⟨h0, h1, h2, h3⟩ := fault_ok h
  refine ok_fault h0 h1 (by rw [List.length_map]; exact h2) fun e he => ?_
  obtain ⟨x, hx, rfl⟩ := List.mem_map.1 he
  have := in_of_out (h3 x hx)
  unfold turnE
  exact out_of_in ⟨this.2.2.1, this.2.2.2.1⟩ ⟨this.1, this.2.1⟩ ⟨this.2.2.2.2.1, this.2.2.2.2.2⟩

/-- The hops of some vertices, forward and back. -/
def bodyB (s t : List Ed) (ml : List Int) : List Int := ml.flatMap fun v => hopsB (hopsL s v) ++ hopsB (hopsL t v)
/-- P7.1: the payload. -/
def payB (w k n : Int) (es : List Ed) : List Int := numsB [w, k, n] ++ bodyB (sortE es) (sortE (es.map turnE)) (mineL w.toNat n.toNat k.toNat)
theorem bodyB_snoc (s t : List Ed) (ml : List Int) (v : Int) : bodyB s t (ml ++ [v]) = bodyB s t ml ++ hopsB (hopsL s v) ++ hopsB (hopsL t v) := by simp [bodyB]
theorem bodyB_len {s t : List Ed} (hs : s.length ≤ 600) (ht : t.length ≤ 600) (ml : List Int) : (bodyB s t ml).length ≤ 24020 * ml.length := by
  induction ml with
  | nil => simp [bodyB]
  | cons v ml ih =>
    have h1 := hopsB_len (hopsL s v)
    have h2 := hopsB_len (hopsL t v)
    have h3 := hops_len s v
    have h4 := hops_len t v
    unfold bodyB at *
    rw [List.flatMap_cons, List.length_append, List.length_append, List.length_cons]
    omega
theorem payB_bytes {w k n : Int} {es : List Ed} (h : faultE n es = 0) (he : errO w k n k = 0) : ∀ x ∈ payB w k n es, 0 ≤ x ∧ x ≤ 255 := by
  intro x hx
  rcases List.mem_append.1 hx with hx | hx
  · refine numsB_bytes (fun m hm => ?_) x hx
    have := errO_inv he
    simp only [List.mem_cons, List.not_mem_nil, or_false] at hm
    omega
  · obtain ⟨v, _, hx⟩ := List.mem_flatMap.1 hx
    rcases List.mem_append.1 hx with hx | hx
    · exact hopsB_bytes (good_hops h v) x hx
    · exact hopsB_bytes (good_hops (turn_fault h) v) x hx
/-- P7.1. -/
def buildF (w k n : Int) (es : List Ed) : List Int × Int :=
  if faultE n es ≠ 0 then ([], faultE n es) else if errO w k n k ≠ 0 then ([], errO w k n k) else if (payB w k n es).length ≤ 20000 then (wrap (payB w k n es), 0) else ([], 1)
theorem build_fault {w k n : Int} {es : List Ed} (h : faultE n es ≠ 0) : buildF w k n es = ([], faultE n es) := by unfold buildF; rw [if_pos h]
theorem build_err {w k n : Int} {es : List Ed} (h : faultE n es = 0) (he : errO w k n k ≠ 0) : buildF w k n es = ([], errO w k n k) := by unfold buildF; rw [if_neg (by simpa using h), if_pos he]
theorem build_ok {w k n : Int} {es : List Ed} (h : faultE n es = 0) (he : errO w k n k = 0) (hl : (payB w k n es).length ≤ 20000) : buildF w k n es = (wrap (payB w k n es), 0) := by unfold buildF; rw [if_neg (by simpa using h), if_neg (by simpa using he), if_pos hl]
theorem build_over {w k n : Int} {es : List Ed} (h : faultE n es = 0) (he : errO w k n k = 0) (hl : ¬ (payB w k n es).length ≤ 20000) : buildF w k n es = ([], 1) := by unfold buildF; rw [if_neg (by simpa using h), if_neg (by simpa using he), if_neg hl]
theorem build_bytes {w k n : Int} {es : List Ed} : ∀ x ∈ (buildF w k n es).1, 0 ≤ x ∧ x ≤ 255 := by
  by_cases h : faultE n es = 0
  · by_cases he : errO w k n k = 0
    · by_cases hl : (payB w k n es).length ≤ 20000
      · rw [build_ok h he hl]; exact wrap_bytes (payB_bytes h he) hl
      · rw [build_over h he hl]; intro x hx; cases hx
    · rw [build_err h he]; intro x hx; cases hx
  · rw [build_fault h]; intro x hx; cases hx
end Go.Proofs.Ytacpicnihgggaaa
