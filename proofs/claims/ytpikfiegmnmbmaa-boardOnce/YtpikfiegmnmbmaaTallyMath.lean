/-
  The boards of pacelinekeep's own reported, as functions of the raw numbers: what is sent, in which turn the workers report, what they report.
-/
import Derived.Test.YtpikfiegmnmbmaaBoardHearP
import Derived.Test.YtpikfiegmnmbmaaPicked
import Derived.Test.YtpikfiegmnmbmaaBoardArgs
namespace Go.Proofs.Ytpikfiegmnmbmaa
set_option maxRecDepth 100000

/-- A report's raw numbers. -/
structure TyL where
  sent : List Int
  waking : Int
  opn : Int
/-- What the worker i sends to the worker k. -/
def sentAt (l : List TyL) (i k : Nat) : Int := match l[i]? with | none => 0 | some t => match t.sent[k]? with | none => 0 | some x => pickF x 5
theorem sentAt_yes {l : List TyL} {i k : Nat} {t : TyL} {x : Int} (h : l[i]? = some t) (h2 : t.sent[k]? = some x) : sentAt l i k = pickF x 5 := by
  unfold sentAt
  rw [h]
  simp only [h2]
theorem sentAt_none {l : List TyL} {i k : Nat} (h : l.length ≤ i) : sentAt l i k = 0 := by
  unfold sentAt
  rw [List.getElem?_eq_none h]
theorem sentAt_out {l : List TyL} {i k : Nat} {t : TyL} (h : l[i]? = some t) (h2 : t.sent.length ≤ k) : sentAt l i k = 0 := by
  unfold sentAt
  rw [h]
  simp only [List.getElem?_eq_none h2]
theorem sentAt_bd (l : List TyL) (i k : Nat) : 0 ≤ sentAt l i k ∧ sentAt l i k ≤ 4 := by
  unfold sentAt
  split
  · exact ⟨by omega, by omega⟩
  · split
    · exact ⟨by omega, by omega⟩
    · rename_i x _
      have := pickF_bd x 5 (by omega)
      exact ⟨this.1, by omega⟩
/-- The table of what is sent, filled so far. -/
def matF (W : Nat) (l : List TyL) (m : Nat) : List Int := (List.range (W * W)).map fun j => if j < m then sentAt l (j / W) (j % W) else 0
theorem matF_len (W : Nat) (l : List TyL) (m : Nat) : (matF W l m).length = W * W := by unfold matF; simp
theorem matF_zero (W : Nat) (l : List TyL) : matF W l 0 = List.replicate (W * W) 0 := by
  unfold matF
  refine List.ext_getElem? fun j => ?_
  rw [List.getElem?_map, List.getElem?_replicate]
  by_cases h : j < W * W
  · rw [List.getElem?_range h, if_pos h]
    simp
  · rw [List.getElem?_eq_none (by simpa using h), if_neg h]
    rfl
theorem pos_div {W i k : Nat} (hk : k < W) : (i * W + k) / W = i ∧ (i * W + k) % W = k := by
  have hW : 0 < W := by omega
  constructor
  · rw [Nat.mul_comm, Nat.mul_add_div hW, Nat.div_eq_of_lt hk, Nat.add_zero]
  · rw [Nat.mul_comm, Nat.mul_add_mod, Nat.mod_eq_of_lt hk]
theorem pos_lt {W i k : Nat} (hi : i < W) (hk : k < W) : i * W + k < W * W := by
  have : (i + 1) * W ≤ W * W := Nat.mul_le_mul_right _ (by omega)
  rw [Nat.add_mul] at this
  omega
theorem matF_set {W : Nat} {l : List TyL} {i k : Nat} (hi : i < W) (hk : k < W) : (matF W l (i * W + k)).set (i * W + k) (sentAt l i k) = matF W l (i * W + k + 1) := by
  have hp := pos_lt hi hk
  unfold matF
  refine List.ext_getElem? fun j => ?_
  rw [List.getElem?_set]
  by_cases h : i * W + k = j
  · subst h
    rw [if_pos rfl, if_pos (by simpa using hp), List.getElem?_map, List.getElem?_range hp]
    simp only [Option.map_some, Nat.lt_succ_self, if_true, (pos_div (i := i) hk).1, (pos_div (i := i) hk).2]
  · rw [if_neg h, List.getElem?_map, List.getElem?_map]
    by_cases hj : j < W * W
    · rw [List.getElem?_range hj]
      simp only [Option.map_some]
      by_cases h2 : j < i * W + k
      · rw [if_pos h2, if_pos (by omega)]
      · rw [if_neg h2, if_neg (by omega)]
    · rw [List.getElem?_eq_none (by simpa using hj)]
      rfl
theorem matF_skip {W : Nat} {l : List TyL} {i k : Nat} (hk : k ≤ W) (h : ∀ k', k ≤ k' → k' < W → sentAt l i k' = 0) : matF W l (i * W + k) = matF W l ((i + 1) * W) := by
  unfold matF
  refine List.map_congr_left fun j hj => ?_
  by_cases h1 : j < i * W + k
  · rw [if_pos h1, if_pos (by rw [Nat.add_mul]; omega)]
  · rw [if_neg h1]
    by_cases h2 : j < (i + 1) * W
    · rw [if_pos h2]
      rw [Nat.add_mul, Nat.one_mul] at h2
      have e : j = i * W + (j - i * W) := by omega
      have hlt : j - i * W < W := by omega
      rw [e, (pos_div hlt).1, (pos_div hlt).2, h _ (by omega) hlt]
    · rw [if_neg h2]
theorem matF_at {W : Nat} {l : List TyL} {i k : Nat} (hi : i < W) (hk : k < W) : (matF W l (W * W))[i * W + k]? = some (sentAt l i k) := by
  have hp := pos_lt hi hk
  unfold matF
  rw [List.getElem?_map, List.getElem?_range hp]
  simp only [Option.map_some, if_pos hp, (pos_div (i := i) hk).1, (pos_div (i := i) hk).2]
/-- At which place the worker i is put. -/
def atO (o : List Int) (i : Nat) : Nat := match o[i]? with | none => 0 | some x => (pickF x ((i : Int) + 1)).toNat
theorem atO_le (o : List Int) (i : Nat) : atO o i ≤ i := by
  unfold atO
  split
  · omega
  · rename_i x _
    have := pickF_bd x ((i : Int) + 1) (by omega)
    omega
theorem atO_some {o : List Int} {i : Nat} {x : Int} (h : o[i]? = some x) : pickF x ((i : Int) + 1) = (atO o i : Int) := by
  unfold atO
  rw [h]
  have := pickF_bd x ((i : Int) + 1) (by omega)
  simp only
  omega
theorem atO_none {o : List Int} {i : Nat} (h : o.length ≤ i) : atO o i = 0 := by
  unfold atO
  rw [List.getElem?_eq_none h]
/-- In which turn so many workers report. -/
def turnT (o : List Int) : Nat → List Int
  | 0 => []
  | i + 1 => (turnT o i).take (atO o i) ++ (i : Int) :: (turnT o i).drop (atO o i)
theorem turnT_len (o : List Int) : ∀ i, (turnT o i).length = i
  | 0 => rfl
  | i + 1 => by
    have h := turnT_len o i
    have h2 := atO_le o i
    simp only [turnT, List.length_append, List.length_cons, List.length_take, List.length_drop, h]
    omega
/-- A number put in at its place, as the program does it: a nought behind, the rest moved up. -/
theorem shift_set {t : List Int} {i a : Nat} {x : Int} (ht : t.length = i) (ha : a ≤ i) : (((t ++ [0]).take (a + 1) ++ ((t ++ [0]).drop a).take (i - a)).set a x) = t.take a ++ x :: t.drop a := by
  refine List.ext_getElem? fun j => ?_
  have hl : ((t ++ [0]).take (a + 1)).length = a + 1 := by rw [List.length_take, List.length_append, List.length_singleton]; omega
  rw [List.getElem?_set]
  by_cases h : a = j
  · subst h
    rw [if_pos rfl, if_pos (by rw [List.length_append, hl]; omega), List.getElem?_append_right (by rw [List.length_take]; omega)]
    have e : a - (t.take a).length = 0 := by rw [List.length_take]; omega
    rw [e]
    rfl
  · rw [if_neg h]
    by_cases h2 : j < a
    · rw [List.getElem?_append_left (by omega), List.getElem?_take_of_lt (by omega), List.getElem?_append_left (by omega), List.getElem?_append_left (by rw [List.length_take]; omega), List.getElem?_take_of_lt h2]
    · rw [List.getElem?_append_right (by omega), hl, List.getElem?_append_right (by rw [List.length_take]; omega)]
      have e : j - (t.take a).length = (j - a - 1) + 1 := by rw [List.length_take]; omega
      rw [e, List.getElem?_cons_succ, List.getElem?_drop]
      have e2 : j - (a + 1) = j - a - 1 := by omega
      rw [e2]
      by_cases h3 : j - a - 1 < i - a
      · rw [List.getElem?_take_of_lt h3, List.getElem?_drop, List.getElem?_append_left (by omega)]
      · rw [List.getElem?_eq_none (by rw [List.length_take]; omega), List.getElem?_eq_none (by omega)]
theorem turnT_perm (o : List Int) : ∀ i, (turnT o i).Perm ((List.range i).map Int.ofNat)
  | 0 => List.Perm.refl _
  | i + 1 => by
    have h := turnT_perm o i
    rw [List.range_succ, List.map_append]
    have h1 : (turnT o (i + 1)).Perm ((i : Int) :: ((turnT o i).take (atO o i) ++ (turnT o i).drop (atO o i))) := List.perm_middle
    rw [List.take_append_drop] at h1
    refine h1.trans ?_
    refine (List.Perm.cons _ h).trans ?_
    have h2 := List.perm_append_comm (l₁ := (List.range i).map Int.ofNat) (l₂ := [(i : Int)])
    exact h2.symm
theorem turnT_mem {o : List Int} {i : Nat} {x : Int} : x ∈ turnT o i ↔ ∃ k : Nat, k < i ∧ x = k := by
  rw [(turnT_perm o i).mem_iff, List.mem_map]
  exact ⟨fun ⟨k, h1, h2⟩ => ⟨k, List.mem_range.1 h1, h2.symm⟩, fun ⟨k, h1, h2⟩ => ⟨k, List.mem_range.2 h1, h2.symm⟩⟩
theorem turnT_nodup (o : List Int) (i : Nat) : (turnT o i).Nodup := by
  rw [(turnT_perm o i).nodup_iff]
  exact List.pairwise_map.2 (List.nodup_range.imp fun h e => h (Int.ofNat.inj e))
/-- What the worker i reports. -/
def wakT (l : List TyL) (i : Nat) : Int := match l[i]? with | none => 0 | some t => pickF t.waking 5
def opnT (l : List TyL) (i : Nat) : Int := match l[i]? with | none => 0 | some t => pickF t.opn 5
def gotT (W : Nat) (l : List TyL) (off : Int) (i k : Nat) : Int := if ((k * W + i : Nat) : Int) = off then sentAt l k i + 1 else sentAt l k i
def repT (W : Nat) (l : List TyL) (off : Int) (i : Nat) : RpL := ⟨i, 2, 3, (List.range W).map (sentAt l i), (List.range W).map (gotT W l off i), wakT l i, opnT l i⟩
theorem wakT_bd (l : List TyL) (i : Nat) : 0 ≤ wakT l i ∧ wakT l i ≤ 4 := by
  unfold wakT
  split
  · exact ⟨by omega, by omega⟩
  · rename_i t _
    have := pickF_bd t.waking 5 (by omega)
    exact ⟨this.1, by omega⟩
theorem opnT_bd (l : List TyL) (i : Nat) : 0 ≤ opnT l i ∧ opnT l i ≤ 4 := by
  unfold opnT
  split
  · exact ⟨by omega, by omega⟩
  · rename_i t _
    have := pickF_bd t.opn 5 (by omega)
    exact ⟨this.1, by omega⟩
theorem gotT_bd (W : Nat) (l : List TyL) (off : Int) (i k : Nat) : 0 ≤ gotT W l off i k ∧ gotT W l off i k ≤ 5 := by
  have := sentAt_bd l k i
  unfold gotT
  split <;> exact ⟨by omega, by omega⟩
theorem repT_in {W : Nat} {l : List TyL} {off : Int} {i : Nat} (hi : i < W) : inR W (repT W l off i) = true := by
  refine inR_iff.2 ⟨⟨by show (0 : Int) ≤ (i : Int); omega, by show (i : Int) < (W : Int); omega⟩, cntB_iff.2 ⟨by simp [repT], fun x hx => ?_⟩, cntB_iff.2 ⟨by simp [repT], fun x hx => ?_⟩, numB_iff.2 ?_, numB_iff.2 ?_⟩
  · obtain ⟨k, _, rfl⟩ := List.mem_map.1 hx
    have := sentAt_bd l i k
    exact numB_iff.2 ⟨this.1, by omega⟩
  · obtain ⟨k, _, rfl⟩ := List.mem_map.1 hx
    have := gotT_bd W l off i k
    exact numB_iff.2 ⟨this.1, by omega⟩
  · have := wakT_bd l i
    exact ⟨this.1, by show wakT l i ≤ _; omega⟩
  · have := opnT_bd l i
    exact ⟨this.1, by show opnT l i ≤ _; omega⟩
/-- What stands on the board behind t turns. -/
def repsT (W : Nat) (l : List TyL) (o : List Int) (out off : Int) (t : Nat) : List RpL := (((turnT o W).take t).filter fun x => decide (x ≠ out)).map fun x => repT W l off x.toNat
def brdT (W : Nat) (l : List TyL) (o : List Int) (out off : Int) (t : Nat) : BdL := ⟨W, 2, 3, repsT W l o out off t⟩
theorem repsT_zero (W : Nat) (l : List TyL) (o : List Int) (out off : Int) : repsT W l o out off 0 = [] := rfl
theorem repsT_skip {W : Nat} {l : List TyL} {o : List Int} {out off : Int} {t : Nat} {x : Int} (hx : (turnT o W)[t]? = some x) (h : x = out) : repsT W l o out off (t + 1) = repsT W l o out off t := by
  unfold repsT
  rw [snoc_take hx, List.filter_append, List.filter_cons_of_neg (by simpa using h)]
  simp
theorem repsT_more {W : Nat} {l : List TyL} {o : List Int} {out off : Int} {t i : Nat} (hx : (turnT o W)[t]? = some (i : Int)) (h : (i : Int) ≠ out) : repsT W l o out off (t + 1) = repsT W l o out off t ++ [repT W l off i] := by
  unfold repsT
  rw [snoc_take hx, List.filter_append, List.map_append, List.filter_cons_of_pos (by simpa using h)]
  simp
theorem may_snoc {b : BdL} {r : RpL} (h : mayBd b = true) (h1 : stE b r = 0) (h2 : byB b.reps r.worker = false) : mayBd ⟨b.workers, b.epoch, b.step, b.reps ++ [r]⟩ = true := by
  obtain ⟨ho, hu⟩ := mayBd_iff.1 h
  refine mayBd_iff.2 ⟨ho, fun i x hi hx => ?_⟩
  simp only at hx hi ⊢
  rw [List.length_append, List.length_singleton] at hi
  rcases Nat.lt_or_ge i b.reps.length with hl | hl
  · rw [List.getElem?_append_left hl] at hx
    obtain ⟨g1, g2⟩ := hu i x hl hx
    exact ⟨g1, by rw [List.take_append_of_le_length (by omega)]; exact g2⟩
  · have e : i = b.reps.length := by omega
    subst e
    rw [List.getElem?_append_right (Nat.le_refl _), Nat.sub_self] at hx
    simp at hx
    subst hx
    exact ⟨h1, by rw [List.take_left]; exact h2⟩
theorem repT_st {W : Nat} {l : List TyL} {o : List Int} {out off : Int} {t i : Nat} (hi : i < W) : stE (brdT W l o out off t) (repT W l off i) = 0 := by
  unfold stE
  rw [if_pos (by exact repT_in hi), if_pos ⟨rfl, rfl⟩]
theorem repT_new {W : Nat} {l : List TyL} {o : List Int} {out off : Int} {t i : Nat} (hx : (turnT o W)[t]? = some (i : Int)) : byB (repsT W l o out off t) (repT W l off i).worker = false := by
  rw [byB_no]
  intro r hr h
  unfold repsT at hr
  obtain ⟨y, hy, rfl⟩ := List.mem_map.1 hr
  have hy2 := (List.mem_filter.1 hy).1
  have hy3 : y ∈ turnT o W := List.mem_of_mem_take hy2
  obtain ⟨k, _, rfl⟩ := turnT_mem.1 hy3
  have e : (k : Int) = (i : Int) := h
  rw [e] at hy2
  obtain ⟨j, hj, hj2⟩ := List.getElem_of_mem hy2
  rw [List.length_take] at hj
  rw [List.getElem_take] at hj2
  have h5 := (List.getElem?_eq_some_iff.1 hx)
  obtain ⟨hl, h6⟩ := h5
  exact (List.pairwise_iff_getElem.1 (turnT_nodup o W)) j t (by omega) hl (by omega) (hj2.trans h6.symm)
theorem brdT_may {W : Nat} {l : List TyL} {o : List Int} {out off : Int} (hW : 1 ≤ W ∧ W ≤ 5) : ∀ t, t ≤ W → mayBd (brdT W l o out off t) = true
  | 0, _ => mayBd_yes (by
      show opE (W : Int) 2 3 = 0
      rw [opE, if_pos ⟨⟨by omega, by omega⟩, by decide, by omega, by omega⟩]) (by
      intro i r hi _
      simp only [brdT, repsT_zero, List.length_nil] at hi
      omega)
  | t + 1, ht => by
    have h := brdT_may (l := l) (o := o) (out := out) (off := off) hW t (by omega)
    have hl : t < (turnT o W).length := by rw [turnT_len]; omega
    obtain ⟨x, hx⟩ : ∃ x, (turnT o W)[t]? = some x := ⟨_, List.getElem?_eq_getElem hl⟩
    obtain ⟨i, hi, rfl⟩ := turnT_mem.1 (List.mem_of_getElem? hx)
    by_cases he : (i : Int) = out
    · unfold brdT at h ⊢
      rw [repsT_skip hx he]
      exact h
    · have h2 := may_snoc h (repT_st (out := out) (off := off) (o := o) (t := t) (l := l) hi) (repT_new hx)
      unfold brdT at h2 ⊢
      rw [repsT_more hx he]
      exact h2
theorem repsT_len (W : Nat) (l : List TyL) (o : List Int) (out off : Int) (t : Nat) : (repsT W l o out off t).length ≤ t := by
  unfold repsT
  rw [List.length_map]
  have h1 := List.length_filter_le (fun x => decide (x ≠ out)) ((turnT o W).take t)
  have h2 := List.length_take_le t (turnT o W)
  omega
theorem repT_B {W : Nat} {l : List TyL} {off : Int} {i : Nat} (hW : W ≤ 5) : RpB (repT W l off i) := by
  unfold RpB repT
  simp
  omega
theorem brdT_B {W : Nat} {l : List TyL} {o : List Int} {out off : Int} {t : Nat} (hW : W ≤ 5 ∧ t ≤ 5) : BdB (brdT W l o out off t) := by
  refine ⟨?_, fun r hr => ?_⟩
  · have := repsT_len W l o out off t
    show (repsT W l o out off t).length * 88 ≤ _
    omega
  · unfold brdT repsT at hr
    obtain ⟨x, _, rfl⟩ := List.mem_map.1 hr
    exact repT_B hW.1
/-- A report more is heard. -/
theorem brdT_hear {W : Nat} {l : List TyL} {o : List Int} {out off : Int} {t i : Nat} (hW : 1 ≤ W ∧ W ≤ 5) (ht : t < W) (hi : i < W) (hx : (turnT o W)[t]? = some (i : Int)) (he : (i : Int) ≠ out) :
    heE (brdT W l o out off t) (repT W l off i) = 0 ∧ heB (brdT W l o out off t) (repT W l off i) = brdT W l o out off (t + 1) := by
  have h1 := heE_yes (brdT_may (out := out) (off := off) (l := l) (o := o) hW t (by omega)) (repT_st hi) (repT_new hx)
  refine ⟨h1, ?_⟩
  rw [heB, if_pos h1]
  unfold brdT
  rw [repsT_more hx he]
end Go.Proofs.Ytpikfiegmnmbmaa
