/-
  Distances and edges: no edge is a short cut, and each distance is had along some edge.
-/
import Derived.Test.YtankibadiomkkaaKeepRows
namespace Go.Proofs.Ytankibadiomkkaa
set_option maxRecDepth 100000

theorem sumW_le {p : List Ed} {M : Int} (h : ∀ e ∈ p, e.2.2 ≤ M) : sumW p ≤ p.length * M := by
  induction p with
  | nil => simp [sumW]
  | cons e p ih =>
    have h1 := h e (by simp)
    have h2 := ih (fun d hd => h d (by simp [hd]))
    rw [sumW_cons, List.length_cons]
    have : ((p.length + 1 : Nat) : Int) * M = p.length * M + M := by rw [Int.natCast_add, Int.add_mul]; simp
    omega
section
variable {m : Nat} {es : List Ed} {s : Int}
theorem dist_bound (hg : InG m es) (hw : ∀ e ∈ es, e.2.2 ≤ 1099511627776) (hs : 0 ≤ s ∧ s < (m : Int)) {v : Int} (hv : 0 ≤ v ∧ v < (m : Int)) : atD (distF m es s) v ≤ m * 1099511627776 := by
  rcases (dist_ok hg hs).2 v hv with ⟨h, _⟩ | ⟨_, ⟨p, hp, hc, _⟩, hm⟩
  · omega
  · obtain ⟨q, hq, hd, hl, _⟩ := chn_short hg p.length (Nat.le_refl _) hp hs hc
    have h1 := hm q hq hd
    have h2 := sumW_le (p := q) (M := 1099511627776) (fun e he => hw e (hq e he))
    omega
theorem dist_src0 (hg : InG m es) (hs : 0 ≤ s ∧ s < (m : Int)) : atD (distF m es s) s = 0 := by
  rcases (dist_ok hg hs).2 s hs with ⟨_, h⟩ | ⟨h0, _, hm⟩
  · exact absurd (Rch.refl _ _) h
  · have := hm [] (by simp) rfl
    rw [sumW_nil] at this
    omega
theorem dist_iff (hg : InG m es) (hs : 0 ≤ s ∧ s < (m : Int)) {v : Int} (hv : 0 ≤ v ∧ v < (m : Int)) : 0 ≤ atD (distF m es s) v ↔ Rch es s v := by
  rcases (dist_ok hg hs).2 v hv with ⟨h, hn⟩ | ⟨h0, hd⟩
  · exact ⟨fun h' => by omega, fun h' => absurd h' hn⟩
  · exact ⟨fun _ => hd.rch, fun _ => h0⟩
theorem dist_edge (hg : InG m es) (hs : 0 ≤ s ∧ s < (m : Int)) {e : Ed} (he : e ∈ es) (h : 0 ≤ atD (distF m es s) e.1) : 0 ≤ atD (distF m es s) e.2.1 ∧ atD (distF m es s) e.2.1 ≤ atD (distF m es s) e.1 + e.2.2 := by
  obtain ⟨f0, f1, t0, t1, _⟩ := hg e he
  have hr := (dist_iff hg hs ⟨t0, t1⟩).2 (((dist_iff hg hs ⟨f0, f1⟩).1 h).step he)
  refine ⟨hr, ?_⟩
  rcases (dist_ok hg hs).2 e.1 ⟨f0, f1⟩ with ⟨h1, _⟩ | ⟨_, ⟨p, hp, hc, hw⟩, _⟩
  · omega
  · rcases (dist_ok hg hs).2 e.2.1 ⟨t0, t1⟩ with ⟨h1, _⟩ | ⟨_, _, hm⟩
    · omega
    · have := hm (p ++ [e]) (fun d hd => by
        rcases List.mem_append.1 hd with hd | hd
        · exact hp d hd
        · simp at hd; rw [hd]; exact he) (chn_app hc ⟨rfl, rfl⟩)
      rw [sumW_app, sumW_cons, sumW_nil] at this
      omega
/-- Each distance but the source's is had along some edge. -/
theorem dist_tight (hg : InG m es) (hs : 0 ≤ s ∧ s < (m : Int)) {v : Int} (hv : 0 ≤ v ∧ v < (m : Int)) (hne : v ≠ s) (h : 0 ≤ atD (distF m es s) v) : ∃ e ∈ es, e.2.1 = v ∧ 0 ≤ atD (distF m es s) e.1 ∧ atD (distF m es s) v = atD (distF m es s) e.1 + e.2.2 := by
  rcases (dist_ok hg hs).2 v hv with ⟨h1, _⟩ | ⟨_, ⟨p, hp, hc, hw⟩, _⟩
  · omega
  · rcases List.eq_nil_or_concat p with rfl | ⟨q, e, rfl⟩
    · exact absurd (show s = v from hc).symm hne
    · rw [List.concat_eq_append] at hp hc hw
      obtain ⟨c1, c2⟩ := chn_snoc hc
      have he : e ∈ es := hp e (by simp)
      obtain ⟨f0, f1, t0, t1, _⟩ := hg e he
      have hq : ∀ d ∈ q, d ∈ es := fun d hd => hp d (by simp [hd])
      have h0 := (dist_iff hg hs ⟨f0, f1⟩).2 ⟨q, hq, c1⟩
      have h2 := (dist_edge hg hs he h0).2
      rw [c2] at h2
      rcases (dist_ok hg hs).2 e.1 ⟨f0, f1⟩ with ⟨h3, _⟩ | ⟨_, _, hm⟩
      · omega
      · have h4 := hm q hq c1
        rw [sumW_app, sumW_cons, sumW_nil] at hw
        exact ⟨e, he, c2, h0, by omega⟩
/-- One edge: is the distance of its end had along it. -/
def hadS (D : List Int) (l : List Bool) (e : Ed) : List Bool := if atD D e.1 < 0 then l else l.set e.2.1.toNat (atB l e.2.1 || (atD D e.2.1 == atD D e.1 + e.2.2))
theorem hadS_len (D : List Int) (l : List Bool) (e : Ed) : (hadS D l e).length = l.length := by unfold hadS; split <;> simp
theorem hadS_keep {D : List Int} {l : List Bool} {e : Ed} {v : Int} (hl : l.length = m) (he : 0 ≤ e.2.1 ∧ e.2.1 < (m : Int)) (hv : 0 ≤ v ∧ v < (m : Int)) (h : atB l v = true) : atB (hadS D l e) v = true := by
  unfold hadS
  split
  · exact h
  · rw [atB_set hl he hv]
    split
    · next ev => rw [← ev, h]; rfl
    · exact h
theorem had_fold {D : List Int} (hg : InG m es) {v : Int} (hv : 0 ≤ v ∧ v < (m : Int)) : ∀ (l2 : List Ed) (l : List Bool), (∀ e ∈ l2, e ∈ es) → l.length = m → atB l v = true → atB (l2.foldl (hadS D) l) v = true
  | [], _, _, _, h => h
  | e :: l2, l, hs, hl, h => by
    obtain ⟨_, _, t0, t1, _⟩ := hg e (hs e (by simp))
    rw [List.foldl_cons]
    exact had_fold hg hv l2 _ (fun d hd => hs d (by simp [hd])) (by rw [hadS_len, hl]) (hadS_keep hl ⟨t0, t1⟩ hv h)
theorem had_len {D : List Int} : ∀ (l2 : List Ed) (l : List Bool), l.length = m → (l2.foldl (hadS D) l).length = m
  | [], _, h => h
  | e :: l2, l, h => by rw [List.foldl_cons]; exact had_len l2 _ (by rw [hadS_len, h])
theorem had_ok (hg : InG m es) (hs : 0 ≤ s ∧ s < (m : Int)) {v : Int} (hv : 0 ≤ v ∧ v < (m : Int)) (hr : Rch es s v) : atB (es.foldl (hadS (distF m es s)) (reach0 m s)) v = true := by
  by_cases ev : v = s
  · refine had_fold hg hv es _ (fun _ h => h) (reach0_len m s) ?_
    unfold reach0
    rw [atB_set (by simp) hs hv, if_pos ev]
  · obtain ⟨e, he, h1, h2, h3⟩ := dist_tight hg hs hv ev ((dist_iff hg hs hv).2 hr)
    obtain ⟨l1, l2, hsp⟩ := List.append_of_mem he
    obtain ⟨_, _, t0, t1, _⟩ := hg e he
    have key : ∀ l : List Bool, l.length = m → atB (hadS (distF m es s) l e) v = true := fun l hl => by
      unfold hadS
      rw [if_neg (by omega), atB_set hl ⟨t0, t1⟩ hv, if_pos h1.symm]
      have : (atD (distF m es s) e.2.1 == atD (distF m es s) e.1 + e.2.2) = true := by rw [h1]; simpa using h3
      rw [this, Bool.or_true]
    have hsub : ∀ d ∈ l2, d ∈ es := fun d hd => by rw [hsp]; simp [hd]
    have hlen := had_len (D := distF m es s) l1 (reach0 m s) (reach0_len m s)
    have hfin := had_fold (D := distF m es s) hg hv l2 (hadS (distF m es s) (l1.foldl (hadS (distF m es s)) (reach0 m s)) e) hsub (by rw [hadS_len, hlen]) (key _ hlen)
    have hfo : es.foldl (hadS (distF m es s)) (reach0 m s) = l2.foldl (hadS (distF m es s)) (hadS (distF m es s) (l1.foldl (hadS (distF m es s)) (reach0 m s)) e) := by
      conv => lhs; rw [show es.foldl (hadS (distF m es s)) (reach0 m s) = (l1 ++ e :: l2).foldl (hadS (distF m es s)) (reach0 m s) from congrArg (fun l => l.foldl (hadS (distF m es s)) (reach0 m s)) hsp]
      rw [List.foldl_append, List.foldl_cons]
    rw [hfo]
    exact hfin
end
end Go.Proofs.Ytankibadiomkkaa
