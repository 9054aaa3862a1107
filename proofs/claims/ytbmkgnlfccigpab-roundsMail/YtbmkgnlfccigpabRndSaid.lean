/-
  A round as loops make it: who says something, what comes to whom, so far.
-/
import Derived.Test.YtbmkgnlfccigpabRoundMay
import Derived.Test.YtbmkgnlfccigpabMayMath
namespace Go.Proofs.Ytbmkgnlfccigpab
set_option maxRecDepth 100000

/-- Who says something, among the first i. -/
def sdR (m : Nat) (r : Int → Ml × Bool) (i : Nat) : List Bool := (List.range m).map fun v : Nat => decide (v < i) && (r (v : Int)).2
theorem sdR_len (m : Nat) (r : Int → Ml × Bool) (i : Nat) : (sdR m r i).length = m := by simp [sdR]
theorem sdR_at {m i v : Nat} {r : Int → Ml × Bool} (hv : v < m) : (sdR m r i)[v]? = some (decide (v < i) && (r (v : Int)).2) := by
  unfold sdR
  rw [List.getElem?_map, List.getElem?_range hv]
  rfl
theorem sdR_zero (m : Nat) (r : Int → Ml × Bool) : sdR m r 0 = List.replicate m false := by
  refine List.ext_getElem? fun v => ?_
  rcases Nat.lt_or_ge v m with hv | hv
  · rw [sdR_at hv, List.getElem?_replicate, if_pos hv]; simp
  · rw [List.getElem?_eq_none (by rw [sdR_len]; omega), List.getElem?_eq_none (by simp; omega)]
theorem sdR_set {m i : Nat} {r : Int → Ml × Bool} (hi : i < m) : sdR m r (i + 1) = (sdR m r i).set i (r (i : Int)).2 := by
  refine List.ext_getElem? fun v => ?_
  rw [List.getElem?_set]
  rcases Nat.lt_or_ge v m with hv | hv
  · rw [sdR_at hv]
    by_cases e : i = v
    · subst e
      rw [if_pos rfl, if_pos (by rw [sdR_len]; omega)]
      simp
    · rw [if_neg e, sdR_at hv]
      congr 2
      rw [Bool.eq_iff_iff]
      simp
      omega
  · rw [List.getElem?_eq_none (by rw [sdR_len]; omega), if_neg (by omega), List.getElem?_eq_none (by rw [sdR_len]; omega)]
theorem sdR_keep {m i : Nat} {r : Int → Ml × Bool} (hi : i < m) (h : (r (i : Int)).2 = false) : sdR m r (i + 1) = sdR m r i := by
  refine List.ext_getElem? fun v => ?_
  rcases Nat.lt_or_ge v m with hv | hv
  · rw [sdR_at hv, sdR_at hv]
    by_cases e : v = i
    · subst e; rw [h]; simp
    · congr 2
      rw [Bool.eq_iff_iff]
      simp
      omega
  · rw [List.getElem?_eq_none (by rw [sdR_len]; omega), List.getElem?_eq_none (by rw [sdR_len]; omega)]
theorem sdR_all {m : Nat} {r : Int → Ml × Bool} {v : Int} (hv : 0 ≤ v ∧ v < (m : Int)) : (sdR m r m)[v.toNat]? = some (r v).2 := by
  rw [sdR_at (by omega), Int.toNat_of_nonneg hv.1]
  simp
  omega
theorem valsR_at {m i : Nat} {r : Int → Ml × Bool} (hi : i < m) : (valsR m r)[i]? = some (r (i : Int)).1 := by
  unfold valsR
  rw [List.getElem?_map, List.getElem?_range hi]
  rfl
theorem valsR_of {m : Nat} {r : Int → Ml × Bool} {v : Int} (hv : 0 ≤ v ∧ v < (m : Int)) : (valsR m r)[v.toNat]? = some (r v).1 := by
  rw [valsR_at (by omega), Int.toNat_of_nonneg hv.1]
theorem mailR_at {m i : Nat} {j : Jb} {r : Int → Ml × Bool} {es : List Ed} (hi : i < m) : (mailR m j r es)[i]? = some (sortN (msgs j r es (i : Int))) := by
  unfold mailR
  rw [List.getElem?_map, List.getElem?_range hi]
  rfl
theorem openV_snoc (l : List Ml) (x : Ml) : openV (l ++ [x]) = (openV l || decide (x.2 < 0)) := by simp [openV]
theorem sortN_nil : sortN [] = [] := List.eq_nil_of_length_eq_zero (by rw [sortN_len]; rfl)
/-- One more edge. -/
theorem msgs_snoc (j : Jb) (r : Int → Ml × Bool) (es : List Ed) (e : Ed) (u : Int) : msgs j r (es ++ [e]) u = msgs j r es u ++ msgE j r u e := by simp [msgs, List.flatMap_append]
theorem msgs_most (j : Jb) (r : Int → Ml × Bool) (es : List Ed) (u : Int) : (msgs j r es u).length ≤ 2 * es.length := by
  induction es with
  | nil => exact Nat.le_refl _
  | cons e es ih =>
    have h1 : msgs j r (e :: es) u = msgE j r u e ++ msgs j r es u := by simp [msgs]
    rw [h1, List.length_append, List.length_cons]
    have h2 : (msgE j r u e).length ≤ 2 := by
      unfold msgE
      rw [List.length_append]
      split <;> split <;> simp
    omega
/-- What comes forward along one edge, and back. -/
def outM (j : Jb) (r : Int → Ml × Bool) (u : Int) (e : Ed) : Bool := ((wayJ j).1 && (e.2.1 == u)) && (r e.1).2
def inM (j : Jb) (r : Int → Ml × Bool) (u : Int) (e : Ed) : Bool := ((wayJ j).2 && (e.1 == u)) && (r e.2.1).2
/-- Nothing along these edges to u is too great. -/
def fitR (j : Jb) (r : Int → Ml × Bool) (es : List Ed) (u : Int) : Prop := ∀ e ∈ es, outM j r u e = true → sayJ j (r e.1).1.1 e.2.2 ≤ Jb.top j
theorem over_of {j : Jb} {r : Int → Ml × Bool} {es : List Ed} {u : Int} {e : Ed} (he : e ∈ es) (h : outM j r u e = true) (ho : ¬ sayJ j (r e.1).1.1 e.2.2 ≤ Jb.top j) : overR j r es = true := by
  unfold outM at h
  simp only [Bool.and_eq_true] at h
  unfold overR
  refine List.any_eq_true.2 ⟨e, he, ?_⟩
  rw [h.1.1, h.2]
  simp
  omega
theorem over_no {j : Jb} {r : Int → Ml × Bool} {es : List Ed} {m : Nat} (hg : InG m es) (h : ∀ u : Nat, u < m → fitR j r es (u : Int)) : overR j r es = false := by
  rw [Bool.eq_false_iff]
  intro g
  obtain ⟨e, he, hb⟩ := List.any_eq_true.1 g
  simp only [Bool.and_eq_true, decide_eq_true_eq] at hb
  have hi := hg e he
  have := h e.2.1.toNat (by omega) e he (by
    unfold outM
    rw [hb.1.1, hb.1.2, Int.toNat_of_nonneg (by omega)]
    simp)
  omega
theorem said_fit {j : Jb} {x : Ml} {n : Int} (hx : valB j x = true) (h0 : 0 ≤ x.1) (hn : inB n 0 1099511627776 = true) : saidJ j x n = if sayJ j x.1 n ≤ Jb.top j then (sayJ j x.1 n, 0) else (0, 6) := by
  unfold saidJ
  have h1 : decide (x.1 ≠ -1) = true := by simp; omega
  rw [hx, h1, hn]
  rfl
theorem wake_fit {j : Jb} {v s : Int} {x : Ml} {b : Bool} {m : List Int} (hv : 0 ≤ v ∧ v ≤ 199) (hx : valB j x = true) (hm : mailB j m = true) : wakeJ j v s x b m = ⟨((wakeV j v s x b m).1.1, (wakeV j v s x b m).1.2), (wakeV j v s x b m).2, 0⟩ := by
  unfold wakeJ
  rw [inB_iff.2 hv, hx, hm]
  rfl
end Go.Proofs.Ytbmkgnlfccigpab
