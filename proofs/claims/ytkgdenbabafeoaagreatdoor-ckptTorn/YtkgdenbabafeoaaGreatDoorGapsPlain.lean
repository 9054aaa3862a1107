/-
  Plain mathematics of P1.5 and P1.6: a list that rises is had again; what is had was packed so.
-/
import Derived.Test.YtkgdenbabafeoaaGreatDoorUngapWalk
namespace Go.Proofs.YtkgdenbabafeoaaGreatDoor
set_option maxRecDepth 100000

theorem gapsTo_split (l : List Int) (k : Nat) : ∀ n, k ≤ n → ∃ r, gapsTo l n = gapsTo l k ++ r
  | 0, h => ⟨[], by rw [show k = 0 from by omega]; simp⟩
  | n + 1, h => by
    by_cases e : k = n + 1
    · exact ⟨[], by rw [e]; simp⟩
    · obtain ⟨r, hr⟩ := gapsTo_split l k n (by omega)
      exact ⟨r ++ put (l.getD n 0 - prev l n), by rw [gapsTo, hr, List.append_assoc]⟩

theorem ungR_gaps (l t : List Int) (ha : AllIn l) (hr : Rises l) (hl : l.length ≤ 2000) : ∀ (j k : Nat), k + j = l.length →
    ungR (put l.length ++ gapsTo l l.length ++ t) j (put l.length ++ gapsTo l k).length (prev l k) (l.take k) = (l, (put l.length ++ gapsTo l l.length).length, 0)
  | 0, k, h => by
    have e : k = l.length := by omega
    subst e
    rw [ungR, List.take_length]
  | j + 1, k, h => by
    have hk : k < l.length := by omega
    have hp := prev_in ha hr hk
    obtain ⟨r, hg⟩ := gapsTo_split l (k + 1) l.length (by omega)
    have e : (put l.length ++ gapsTo l l.length ++ t).drop (put l.length ++ gapsTo l k).length = put (l.getD k 0 - prev l k) ++ (r ++ t) := by
      rw [hg, gapsTo]
      have : put l.length ++ (gapsTo l k ++ put (l.getD k 0 - prev l k) ++ r) ++ t = (put l.length ++ gapsTo l k) ++ (put (l.getD k 0 - prev l k) ++ (r ++ t)) := by simp
      rw [this, List.drop_left]
    have hget := get_put (n := l.getD k 0 - prev l k) (r ++ t) (by omega) (by omega)
    rw [← e] at hget
    rw [ungR_step hget (by omega)]
    have ih := ungR_gaps l t ha hr hl j (k + 1) (by omega)
    have e1 : (put l.length ++ gapsTo l k).length + (put (l.getD k 0 - prev l k)).length = (put l.length ++ gapsTo l (k + 1)).length := by
      rw [gapsTo]; simp [Nat.add_assoc]
    have e2 : prev l k + (l.getD k 0 - prev l k) = prev l (k + 1) := by
      have : prev l (k + 1) = l.getD k 0 := by simp [prev]
      rw [this]; omega
    rw [e1, e2]
    have e3 : l.take k ++ [prev l (k + 1)] = l.take (k + 1) := by
      rw [take_snocI hk]; simp [prev]
    rw [e3]; exact ih

/-- A list that rises is had again, whatever stands behind it. -/
theorem ungap_gaps {l : List Int} (t : List Int) (h : Named l 0) : ungap (gapsF l 0 ++ t) = (l, (gapsF l 0).length, 0) := by
  rcases h with h | h | h | ⟨_, hl, ha, hr⟩
  · omega
  · omega
  · omega
  · have e : gapsF l 0 = put l.length ++ gapsTo l l.length := rfl
    rw [e]
    have hg : get (put l.length ++ gapsTo l l.length ++ t) = ((l.length : Int), (put l.length).length, 0) := by
      rw [List.append_assoc]; exact get_put _ (by omega) (by omega)
    unfold ungap
    rw [hg]
    have h2 : ¬ (2000 : Int) < (l.length : Int) := by omega
    simp only [ne_eq, not_true_eq_false, if_false, if_neg h2, Int.toNat_natCast]
    have := ungR_gaps l t ha hr hl l.length 0 (by omega)
    simpa [gapsTo, prev] using this

theorem gapsTo_snoc (l : List Int) (x : Int) : ∀ k, k ≤ l.length → gapsTo (l ++ [x]) k = gapsTo l k
  | 0, _ => rfl
  | k + 1, h => by
    have ih := gapsTo_snoc l x k (by omega)
    have e1 : (l ++ [x]).getD k 0 = l.getD k 0 := by
      rw [List.getD_eq_getElem?_getD, List.getD_eq_getElem?_getD, List.getElem?_append_left (by omega)]
    have e2 : prev (l ++ [x]) k = prev l k := by
      unfold prev
      by_cases h0 : k = 0
      · rw [if_pos h0, if_pos h0]
      · rw [if_neg h0, if_neg h0, List.getD_eq_getElem?_getD, List.getD_eq_getElem?_getD, List.getElem?_append_left (by omega)]
    rw [gapsTo, gapsTo, ih, e1, e2]
theorem getD_snoc (l : List Int) (x : Int) : (l ++ [x]).getD l.length 0 = x := by
  rw [List.getD_eq_getElem?_getD, List.getElem?_append_right (Nat.le_refl _)]; simp
theorem getD_snoc_lt (l : List Int) (x : Int) {i : Nat} (h : i < l.length) : (l ++ [x]).getD i 0 = l.getD i 0 := by
  rw [List.getD_eq_getElem?_getD, List.getD_eq_getElem?_getD, List.getElem?_append_left h]
theorem allIn_snoc {l : List Int} {x : Int} (h : AllIn l) (h0 : 0 ≤ x) (h1 : x ≤ 1152921504606846976) : AllIn (l ++ [x]) := fun i hi => by
  by_cases e : i < l.length
  · rw [getD_snoc_lt l x e]; exact h i e
  · have : i = l.length := by simp at hi; omega
    rw [this, getD_snoc]; exact ⟨h0, h1⟩
theorem rises_snoc {l : List Int} {x : Int} (h : Rises l) (hx : prev l l.length ≤ x) : Rises (l ++ [x]) := fun i hi => by
  by_cases e : i + 1 < l.length
  · rw [getD_snoc_lt l x e, getD_snoc_lt l x (by omega)]; exact h i e
  · have hi2 : i + 1 = l.length := by simp at hi; omega
    rw [hi2, getD_snoc, getD_snoc_lt l x (by omega)]
    unfold prev at hx
    rw [if_neg (by omega), ← hi2] at hx
    exact hx
theorem prev_snoc (l : List Int) (x : Int) : prev (l ++ [x]) (l ++ [x]).length = x := by
  unfold prev
  rw [if_neg (by simp), show (l ++ [x]).length - 1 = l.length from by simp, getD_snoc]

/-- What comes of the numbers to come. -/
theorem ungR_inv (b : List Int) (m : Nat) (hb : ∀ x ∈ b, 0 ≤ x ∧ x ≤ 255) (t : Nat) : ∀ (u : Nat) (n : Int) (out : List Int), out.length + t = m → AllIn out → Rises out → prev out out.length = n → 0 ≤ n → n ≤ 1152921504606846976 →
      u ≤ b.length → 1 ≤ u → put m ++ gapsTo out out.length = b.take u →
    (∃ e, ungR b t u n out = ([], 0, e) ∧ e ≠ 0) ∨ ∃ (x : List Int) (k : Nat), ungR b t u n out = (x, k, 0) ∧ x.length = m ∧ AllIn x ∧ Rises x ∧ k ≤ b.length ∧ 1 ≤ k ∧ put m ++ gapsTo x x.length = b.take k := by
  induction t with
  | zero =>
    intro u n out hm ha hr _ _ _ hu hu1 hg
    exact .inr ⟨out, u, by rw [ungR], by omega, ha, hr, hu, hu1, hg⟩
  | succ t ih =>
    intro u n out hm ha hr hp hn0 hn1 hu hu1 hg
    rcases get_inv (xs := b.drop u) (fun x hx => hb x (List.mem_of_mem_drop hx)) with ⟨e, he, hne⟩ | ⟨g, r, he, hys, hg0, hg1⟩
    · exact .inl ⟨e, ungR_err he hne, hne⟩
    · by_cases hov : 1152921504606846976 - n < g
      · exact .inl ⟨2, ungR_over he hov, by decide⟩
      · rw [ungR_step he hov]
        have hkl : u + (put g).length ≤ b.length := by
          have := congrArg List.length hys
          rw [List.length_drop, List.length_append] at this; omega
        refine ih _ (n + g) (out ++ [n + g]) (by simp; omega) (allIn_snoc ha (by omega) (by omega)) (rises_snoc hr (by omega)) (prev_snoc _ _) (by omega) (by omega) hkl (by omega) ?_
        have e1 : (out ++ [n + g]).length = out.length + 1 := by simp
        rw [e1, gapsTo, gapsTo_snoc _ _ _ (Nat.le_refl _), getD_snoc]
        have e2 : prev (out ++ [n + g]) out.length = n := by
          rw [← hp]
          unfold prev
          by_cases h0 : out.length = 0
          · rw [if_pos h0, if_pos h0]
          · rw [if_neg h0, if_neg h0, getD_snoc_lt _ _ (by omega)]
        rw [e2, show n + g - n = g from by omega, ← List.append_assoc, hg]
        have e3 : b.take (u + (put g).length) = b.take u ++ (b.drop u).take (put g).length := by rw [List.take_add]
        rw [e3, hys, List.take_left]
/-- What is had was packed so. -/
theorem ungap_inv {b : List Int} (hb : ∀ x ∈ b, 0 ≤ x ∧ x ≤ 255) :
    (∃ e, ungap b = ([], 0, e) ∧ e ≠ 0) ∨ ∃ (x : List Int) (k : Nat), ungap b = (x, k, 0) ∧ Named x 0 ∧ k ≤ b.length ∧ 1 ≤ k ∧ gapsF x 0 = b.take k := by
  rcases get_inv hb with ⟨e, he, hne⟩ | ⟨n, r, he, hys, hn0, hn1⟩
  · exact .inl ⟨e, by unfold ungap; rw [he]; simp [hne], hne⟩
  · by_cases hbig : 2000 < n
    · exact .inl ⟨1, by unfold ungap; rw [he]; simp [hbig], by decide⟩
    · obtain ⟨m, rfl⟩ := Int.eq_ofNat_of_zero_le hn0
      have lp := put_len (m : Int)
      have hxl : (put (m : Int)).length ≤ b.length := by rw [hys]; simp
      have hu : ungap b = ungR b m (put (m : Int)).length 0 [] := by unfold ungap; rw [he]; simp [hbig]
      have ht : b.take (put (m : Int)).length = put (m : Int) := by rw [hys, List.take_left]
      rcases ungR_inv b m hb m (put (m : Int)).length 0 [] (by simp) (fun i hi => by simp at hi) (fun i hi => by simp at hi) rfl (by omega) (by omega) hxl (by omega) (by rw [ht]; simp [gapsTo]) with ⟨e, h1, h2⟩ | ⟨x, k, h1, h2, h3, h4, h5, h6, h7⟩
      · exact .inl ⟨e, by rw [hu, h1], h2⟩
      · refine .inr ⟨x, k, by rw [hu, h1], .inr (.inr (.inr ⟨rfl, by omega, h3, h4⟩)), h5, h6, ?_⟩
        show put (x.length : Int) ++ gapsTo x x.length = _
        rw [h2] at h7 ⊢; exact h7
end Go.Proofs.YtkgdenbabafeoaaGreatDoor
