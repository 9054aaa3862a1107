/-
  When the boards of reported are ready, and what they add up to.
-/
import Derived.Test.YtpikfiegmnmbmaaTallyMath
namespace Go.Proofs.Ytpikfiegmnmbmaa
set_option maxRecDepth 100000

theorem full_reps {W : Nat} {l : List TyL} {o : List Int} {off : Int} : repsT W l o W off W = (turnT o W).map fun x => repT W l off x.toNat := by
  unfold repsT
  rw [List.take_of_length_le (by rw [turnT_len]; omega), List.filter_eq_self.2 (fun x hx => by
    obtain ⟨k, hk, rfl⟩ := turnT_mem.1 hx
    simp
    omega)]
theorem full_len {W : Nat} {l : List TyL} {o : List Int} {off : Int} : (repsT W l o W off W).length = W := by rw [full_reps, List.length_map, turnT_len]
theorem rep_mem {W : Nat} {l : List TyL} {o : List Int} {off : Int} {i : Nat} (hi : i < W) : repT W l off i ∈ repsT W l o W off W := by
  rw [full_reps]
  exact List.mem_map.2 ⟨(i : Int), turnT_mem.2 ⟨i, hi, rfl⟩, by simp⟩
theorem mem_rep {W : Nat} {l : List TyL} {o : List Int} {off : Int} {r : RpL} (h : r ∈ repsT W l o W off W) : ∃ i, i < W ∧ r = repT W l off i := by
  rw [full_reps] at h
  obtain ⟨x, hx, rfl⟩ := List.mem_map.1 h
  obtain ⟨k, hk, rfl⟩ := turnT_mem.1 hx
  exact ⟨k, hk, by simp⟩
theorem fit_rep {W : Nat} {l : List TyL} {off : Int} {i k : Nat} (hi : i < W) (hk : k < W) : fitB (repT W l off i) (repT W l off k) = decide (((i * W + k : Nat) : Int) ≠ off) := by
  have h1 : (repT W l off i).sent[k]? = some (sentAt l i k) := by
    show ((List.range W).map (sentAt l i))[k]? = _
    rw [List.getElem?_map, List.getElem?_range hk]
    rfl
  have h2 : (repT W l off k).got[i]? = some (gotT W l off k i) := by
    show ((List.range W).map (gotT W l off k))[i]? = _
    rw [List.getElem?_map, List.getElem?_range hi]
    rfl
  rw [fitB_at (kx := i) (ky := k) rfl rfl h1 h2]
  unfold gotT
  by_cases h : ((i * W + k : Nat) : Int) = off
  · rw [if_pos h, decide_eq_false (by simpa using h)]
    simp
    omega
  · rw [if_neg h, decide_eq_true (by simpa using h)]
    simp
theorem tally_all {W : Nat} {l : List TyL} {o : List Int} (hW : 1 ≤ W ∧ W ≤ 5) : rdE (brdT W l o W (-1) W) = 0 := by
  refine rdE_yes (brdT_may hW W (Nat.le_refl _)) ⟨?_, ?_⟩
  · show (W : Int) ≤ ((repsT W l o W (-1) W).length : Int)
    rw [full_len]
    omega
  · show cameB (repsT W l o W (-1) W) = true
    rw [cameB_eq, List.all_eq_true]
    intro r hr
    rw [List.all_eq_true]
    intro s hs
    obtain ⟨i, hi, rfl⟩ := mem_rep hr
    obtain ⟨k, hk, rfl⟩ := mem_rep hs
    rw [fit_rep hi hk, decide_eq_true_iff]
    omega
theorem ready_out {W : Nat} {l : List TyL} {o : List Int} {out : Int} (hW : 1 ≤ W ∧ W ≤ 5) (ho : 0 ≤ out ∧ out < W) : rdE (brdT W l o out (-1) W) = 12 := by
  refine rdE_wait (brdT_may hW W (Nat.le_refl _)) fun h => ?_
  have h1 : (W : Int) ≤ ((repsT W l o out (-1) W).length : Int) := h.1
  have h2 : (repsT W l o out (-1) W).length < W := by
    unfold repsT
    rw [List.length_map, List.take_of_length_le (by rw [turnT_len]; omega)]
    have h3 : ((turnT o W).filter fun x => decide (x ≠ out)).length < (turnT o W).length := by
      rw [List.length_filter_lt_length_iff_exists]
      exact ⟨out, turnT_mem.2 ⟨out.toNat, by omega, by omega⟩, by simp⟩
    rwa [turnT_len] at h3
  omega
theorem ready_off {W : Nat} {l : List TyL} {o : List Int} {off : Int} (hW : 1 ≤ W ∧ W ≤ 5) (ho : 0 ≤ off ∧ off < ((W * W : Nat) : Int)) : rdE (brdT W l o W off W) = 12 := by
  refine rdE_wait (brdT_may hW W (Nat.le_refl _)) fun h => ?_
  obtain ⟨p, hp⟩ : ∃ p : Nat, off = p := ⟨off.toNat, by omega⟩
  have hp2 : p < W * W := by omega
  have hi : p / W < W := (Nat.div_lt_iff_lt_mul (by omega)).2 hp2
  have hk : p % W < W := Nat.mod_lt _ (by omega)
  have hc : cameB (repsT W l o W off W) = true := h.2
  rw [cameB_eq, List.all_eq_true] at hc
  have h1 := List.all_eq_true.1 (hc _ (rep_mem hi)) _ (rep_mem hk)
  rw [fit_rep hi hk, decide_eq_true_iff] at h1
  apply h1
  rw [hp, Nat.mul_comm, Nat.div_add_mod]
theorem ready_zero {b : BdL} (f : RpL → Int) (h : rdE b = 12) : rdA b f = 0 := rdA_no f (by rw [h]; decide)
/-- A sum that does not wrap. -/
theorem sumR_add (f : RpL → Int) : ∀ (rs : List RpL) (a : Int), (∀ r ∈ rs, 0 ≤ f r ∧ f r ≤ 4) → 0 ≤ a → a + 4 * (rs.length : Int) ≤ 9223372036854775807 → rs.foldl (fun a r => IntKind.i64.wrap (a + f r)) a = a + (rs.map f).sum
  | [], a, _, _, _ => by simp
  | r :: rs, a, h, ha, hb => by
    have h1 := h r (List.mem_cons_self ..)
    rw [List.length_cons] at hb
    have e : IntKind.i64.wrap (a + f r) = a + f r := by rw [IntKind.wrap_i64]; omega
    rw [List.foldl_cons, e, sumR_add f rs (a + f r) (fun x hx => h x (List.mem_cons_of_mem _ hx)) (by omega) (by omega), List.map_cons, List.sum_cons]
    omega
theorem sum_perm {a b : List Int} (h : a.Perm b) : a.sum = b.sum := by
  induction h with
  | nil => rfl
  | cons x _ ih => rw [List.sum_cons, List.sum_cons, ih]
  | swap x y l => simp only [List.sum_cons]; omega
  | trans _ _ h1 h2 => exact h1.trans h2
/-- What all reports together say. -/
def allT (g : List TyL → Nat → Int) (l : List TyL) (W : Nat) : Int := ((List.range W).map (g l)).sum
theorem allT_succ (g : List TyL → Nat → Int) (l : List TyL) (W : Nat) : allT g l (W + 1) = allT g l W + g l W := by
  unfold allT
  rw [List.range_succ, List.map_append, List.sum_append]
  simp
theorem ready_sum {W : Nat} {l : List TyL} {o : List Int} (hW : 1 ≤ W ∧ W ≤ 5) (f : RpL → Int) (g : List TyL → Nat → Int) (hf : ∀ i, f (repT W l (-1) i) = g l i) (hg : ∀ i, 0 ≤ g l i ∧ g l i ≤ 4) : rdA (brdT W l o W (-1) W) f = allT g l W := by
  rw [rdA_yes f (tally_all hW)]
  show sumR f (repsT W l o W (-1) W) = _
  unfold sumR
  rw [sumR_add f _ 0 (fun r hr => by obtain ⟨i, _, rfl⟩ := mem_rep hr; rw [hf]; exact hg i) (Int.le_refl 0) (by rw [full_len]; omega), Int.zero_add, full_reps, List.map_map]
  have h1 := (turnT_perm o W).map (f ∘ fun x => repT W l (-1) x.toNat)
  rw [sum_perm h1, List.map_map]
  unfold allT
  congr 1
  refine List.map_congr_left fun i _ => ?_
  exact hf i
theorem allT_bd {g : List TyL → Nat → Int} {l : List TyL} (hg : ∀ i, 0 ≤ g l i ∧ g l i ≤ 4) : ∀ W : Nat, 0 ≤ allT g l W ∧ allT g l W ≤ 4 * (W : Int)
  | 0 => by simp [allT]
  | W + 1 => by
    have h := allT_bd hg W
    have h2 := hg W
    rw [allT_succ]
    exact ⟨by omega, by omega⟩
theorem allT_stop {g : List TyL → Nat → Int} {l : List TyL} {k : Nat} (h : ∀ i, l.length ≤ i → g l i = 0) (hk : l.length ≤ k) : ∀ d : Nat, allT g l (k + d) = allT g l k
  | 0 => rfl
  | d + 1 => by rw [← Nat.add_assoc, allT_succ, allT_stop h hk d, h _ (by omega), Int.add_zero]
end Go.Proofs.Ytpikfiegmnmbmaa
