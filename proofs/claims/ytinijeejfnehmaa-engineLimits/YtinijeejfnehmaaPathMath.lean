/-
  Walks along edges; that as few edges as vertices are enough; what rounds over all edges come to.
-/
import Derived.Test.YtinijeejfnehmaaGraphMath
namespace Go.Proofs.Ytinijeejfnehmaa
set_option maxRecDepth 100000

/-- The edges p lead from u to v. -/
def Chn : Int → List Ed → Int → Prop
  | u, [], v => u = v
  | u, e :: p, v => e.1 = u ∧ Chn e.2.1 p v
def sumW (p : List Ed) : Int := (p.map fun e => e.2.2).sum
theorem sumW_nil : sumW [] = 0 := rfl
theorem sumW_cons (e : Ed) (p : List Ed) : sumW (e :: p) = e.2.2 + sumW p := by simp [sumW]
theorem sumW_app (p q : List Ed) : sumW (p ++ q) = sumW p + sumW q := by simp [sumW]
theorem chn_app : ∀ {p q : List Ed} {u v x : Int}, Chn u p x → Chn x q v → Chn u (p ++ q) v
  | [], q, u, v, x, h, h2 => by have h' : u = x := h; rw [h']; exact h2
  | e :: p, q, u, v, x, h, h2 => ⟨h.1, chn_app h.2 h2⟩
theorem chn_snoc : ∀ {p : List Ed} {e : Ed} {u v : Int}, Chn u (p ++ [e]) v → Chn u p e.1 ∧ e.2.1 = v
  | [], e, u, v, h => ⟨h.1.symm, h.2⟩
  | d :: p, e, u, v, h => by
    obtain ⟨h1, h2⟩ := chn_snoc (p := p) h.2
    exact ⟨⟨h.1, h1⟩, h2⟩
/-- All edges lie within n vertices, and weigh something or nothing. -/
def InG (n : Int) (es : List Ed) : Prop := ∀ e ∈ es, 0 ≤ e.1 ∧ e.1 < n ∧ 0 ≤ e.2.1 ∧ e.2.1 < n ∧ 0 ≤ e.2.2
theorem sumW_nn {n : Int} {es p : List Ed} (hg : InG n es) (hp : ∀ e ∈ p, e ∈ es) : 0 ≤ sumW p := by
  induction p with
  | nil => exact Int.le_refl _
  | cons e p ih =>
    rw [sumW_cons]
    have h1 := hg e (hp e (by simp))
    have h2 := ih (fun d hd => hp d (by simp [hd]))
    omega
theorem chn_in {n : Int} {es : List Ed} (hg : InG n es) : ∀ {p : List Ed} {u v : Int}, (∀ e ∈ p, e ∈ es) → 0 ≤ u ∧ u < n → Chn u p v → 0 ≤ v ∧ v < n
  | [], u, v, _, hu, h => by have h' : u = v := h; rwa [← h']
  | e :: p, u, v, hp, hu, h => by
    have h1 := hg e (hp e (by simp))
    exact chn_in hg (fun d hd => hp d (by simp [hd])) ⟨h1.2.2.1, h1.2.2.2.1⟩ h.2

/-- The vertices that are visited. -/
def vis (u : Int) (p : List Ed) : List Int := u :: p.map fun e => e.2.1
/-- From a visited vertex on. -/
theorem vis_cut {n : Int} {es : List Ed} (hg : InG n es) : ∀ {q : List Ed} {x y v : Int}, (∀ e ∈ q, e ∈ es) → Chn y q v → x ∈ vis y q →
    ∃ q', (∀ e ∈ q', e ∈ es) ∧ Chn x q' v ∧ q'.length ≤ q.length ∧ sumW q' ≤ sumW q
  | [], x, y, v, hq, h, hx => by
    have : x = y := by simpa [vis] using hx
    subst this
    exact ⟨[], by simp, h, Nat.le_refl _, Int.le_refl _⟩
  | e :: q, x, y, v, hq, h, hx => by
    have hq' : ∀ d ∈ q, d ∈ es := fun d hd => hq d (by simp [hd])
    have hw := (hg e (hq e (by simp))).2.2.2.2
    rcases List.mem_cons.1 hx with rfl | hx'
    · exact ⟨e :: q, hq, h, Nat.le_refl _, Int.le_refl _⟩
    · have hx2 : x ∈ vis e.2.1 q := by simpa [vis] using hx'
      obtain ⟨q', h1, h2, h3, h4⟩ := vis_cut hg hq' h.2 hx2
      refine ⟨q', h1, h2, by simp; omega, ?_⟩
      rw [sumW_cons]
      omega
theorem chn_less {n : Int} {es : List Ed} (hg : InG n es) : ∀ {p : List Ed} {u v : Int}, (∀ e ∈ p, e ∈ es) → Chn u p v →
    (vis u p).Nodup ∨ ∃ p', (∀ e ∈ p', e ∈ es) ∧ Chn u p' v ∧ p'.length < p.length ∧ sumW p' ≤ sumW p
  | [], u, v, _, _ => .inl (by simp [vis])
  | e :: q, u, v, hp, h => by
    have hq : ∀ d ∈ q, d ∈ es := fun d hd => hp d (by simp [hd])
    have hw := (hg e (hp e (by simp))).2.2.2.2
    by_cases hu : u ∈ vis e.2.1 q
    · obtain ⟨q', h1, h2, h3, h4⟩ := vis_cut hg hq h.2 hu
      exact .inr ⟨q', h1, h2, by simp; omega, by rw [sumW_cons]; omega⟩
    · rcases chn_less hg hq h.2 with hn | ⟨q', h1, h2, h3, h4⟩
      · refine .inl ?_
        have : vis u (e :: q) = u :: vis e.2.1 q := by simp [vis]
        rw [this]
        exact List.nodup_cons.2 ⟨hu, hn⟩
      · refine .inr ⟨e :: q', fun d hd => ?_, ⟨h.1, h2⟩, by simp; omega, by rw [sumW_cons, sumW_cons]; omega⟩
        rcases List.mem_cons.1 hd with rfl | hd
        · exact hp _ (by simp)
        · exact h1 d hd
/-- Numbers below n that are all different are no more than n. -/
theorem pigeon : ∀ (n : Nat) (l : List Int), l.Nodup → (∀ x ∈ l, 0 ≤ x ∧ x < (n : Int)) → l.length ≤ n
  | 0, [], _, _ => Nat.le_refl _
  | 0, x :: l, _, h => by have := h x (by simp); omega
  | n + 1, l, hn, h => by
    by_cases hm : (n : Int) ∈ l
    · have h1 : (l.erase (n : Int)).length + 1 = l.length := by
        have := List.length_erase_of_mem hm
        have : 0 < l.length := List.length_pos_of_mem hm
        omega
      have h2 := pigeon n (l.erase (n : Int)) (hn.erase _) (fun x hx => by
        have hx' := (List.Nodup.mem_erase_iff hn).1 hx
        have := h x hx'.2
        have hne := hx'.1
        omega)
      omega
    · have := pigeon n l hn (fun x hx => by
        have := h x hx
        have hne : x ≠ (n : Int) := fun e => hm (e ▸ hx)
        omega)
      omega
/-- A walk with fewer edges than there are vertices, that weighs no more. -/
theorem chn_short {n : Nat} {es : List Ed} (hg : InG n es) : ∀ (k : Nat) {p : List Ed} {u v : Int}, p.length ≤ k → (∀ e ∈ p, e ∈ es) → 0 ≤ u ∧ u < (n : Int) → Chn u p v →
    ∃ p', (∀ e ∈ p', e ∈ es) ∧ Chn u p' v ∧ p'.length < n ∧ sumW p' ≤ sumW p
  | k, p, u, v, hk, hp, hu, h => by
    rcases chn_less hg hp h with hn | ⟨p', h1, h2, h3, h4⟩
    · refine ⟨p, hp, h, ?_, Int.le_refl _⟩
      have := pigeon n (vis u p) hn (fun x hx => by
        rcases List.mem_cons.1 hx with rfl | hx
        · exact hu
        · obtain ⟨e, he, rfl⟩ := List.mem_map.1 hx
          have := hg e (hp e he)
          exact ⟨this.2.2.1, this.2.2.2.1⟩)
      simp [vis] at this
      omega
    · cases k with
      | zero => omega
      | succ k =>
        obtain ⟨p2, g1, g2, g3, g4⟩ := chn_short hg k (p := p') (by omega) h1 hu h2
        exact ⟨p2, g1, g2, g3, by omega⟩

/-- Some edges lead from u to v. -/
def Rch (es : List Ed) (u v : Int) : Prop := ∃ p, (∀ e ∈ p, e ∈ es) ∧ Chn u p v
theorem Rch.refl (es : List Ed) (u : Int) : Rch es u u := ⟨[], by simp, rfl⟩
theorem Rch.trans {es : List Ed} {u v x : Int} (h : Rch es u x) (h2 : Rch es x v) : Rch es u v := by
  obtain ⟨p, hp, hc⟩ := h
  obtain ⟨q, hq, hd⟩ := h2
  exact ⟨p ++ q, fun e he => by rcases List.mem_append.1 he with h | h; exact hp e h; exact hq e h, chn_app hc hd⟩
theorem Rch.step {es : List Ed} {u : Int} {e : Ed} (h : Rch es u e.1) (he : e ∈ es) : Rch es u e.2.1 := h.trans ⟨[e], by simpa using he, ⟨rfl, rfl⟩⟩
theorem Rch.in {n : Int} {es : List Ed} {u v : Int} (hg : InG n es) (hu : 0 ≤ u ∧ u < n) (h : Rch es u v) : 0 ≤ v ∧ v < n := by
  obtain ⟨p, hp, hc⟩ := h
  exact chn_in hg hp hu hc

section
variable {σ C : Type}
/-- k rounds over all edges. -/
def rnds (f : σ → Ed → σ) (es : List Ed) : Nat → σ → σ
  | 0, s => s
  | k + 1, s => rnds f es k (es.foldl f s)
theorem rnds_next (f : σ → Ed → σ) (es : List Ed) : ∀ (k : Nat) (s : σ), rnds f es (k + 1) s = es.foldl f (rnds f es k s)
  | 0, s => rfl
  | k + 1, s => by
    show rnds f es (k + 1) (es.foldl f s) = es.foldl f (rnds f es k (es.foldl f s))
    exact rnds_next f es k _
theorem fold_keeps {f : σ → Ed → σ} {I : σ → Prop} : ∀ {es : List Ed} {s : σ}, (∀ s e, e ∈ es → I s → I (f s e)) → I s → I (es.foldl f s)
  | [], s, _, h => h
  | e :: es, s, hf, h => by
    rw [List.foldl_cons]
    exact fold_keeps (fun s' d hd hs => hf s' d (by simp [hd]) hs) (hf s e (by simp) h)
theorem rnds_keep {f : σ → Ed → σ} {I : σ → Prop} {es : List Ed} (hf : ∀ s e, e ∈ es → I s → I (f s e)) : ∀ (k : Nat) {s : σ}, I s → I (rnds f es k s)
  | 0, _, h => h
  | k + 1, _, h => rnds_keep hf k (fold_keeps hf h)
/-- What holds at the beginning of a walk, and goes along each edge in a round, holds at its end behind as many rounds as it has edges. -/
theorem rnds_get {f : σ → Ed → σ} {es ds : List Ed} {I : σ → Prop} {P : Int → C → σ → Prop} {add : C → Ed → C} (hI : ∀ s e, e ∈ es → I s → I (f s e))
    (hm : ∀ s e v c, e ∈ es → I s → P v c s → P v c (f s e)) (hs : ∀ d ∈ ds, ∃ e ∈ es, ∀ s c, I s → P d.1 c s → P d.2.1 (add c d) (f s e))
    {s : σ} {u : Int} {c0 : C} (h0 : I s) (hu : P u c0 s) : ∀ (k : Nat) (p : List Ed) (v : Int), p.length ≤ k → (∀ e ∈ p, e ∈ ds) → Chn u p v → P v (p.foldl add c0) (rnds f es k s) := by
  have keep : ∀ (l : List Ed) (t : σ) (v : Int) (c : C), (∀ e ∈ l, e ∈ es) → I t → P v c t → I (l.foldl f t) ∧ P v c (l.foldl f t) := fun l t v c hl hi hp =>
    fold_keeps (I := fun t => I t ∧ P v c t) (fun t e he ht => ⟨hI t e (hl e he) ht.1, hm t e v c (hl e he) ht.1 ht.2⟩) ⟨hi, hp⟩
  intro k
  induction k with
  | zero =>
    intro p v hp _ hc
    have : p = [] := List.eq_nil_of_length_eq_zero (by omega)
    subst this
    have h' : u = v := hc
    rw [← h']
    exact hu
  | succ k ih =>
    intro p v hp hd hc
    rw [rnds_next]
    have hIk : I (rnds f es k s) := rnds_keep hI k h0
    rcases List.eq_nil_or_concat p with rfl | ⟨q, d, rfl⟩
    · exact (keep es _ v c0 (fun _ h => h) hIk (ih [] v (by simp) (by simp) hc)).2
    · rw [List.concat_eq_append] at hp hd hc ⊢
      obtain ⟨hc1, hc2⟩ := chn_snoc hc
      have hq := ih q d.1 (by simp at hp; omega) (fun e he => hd e (by simp [he])) hc1
      obtain ⟨e, he, hstep⟩ := hs d (hd d (by simp))
      rw [List.foldl_append]
      show P v (add (q.foldl add c0) d) _
      rw [← hc2]
      obtain ⟨l1, l2, rfl⟩ := List.append_of_mem he
      rw [List.foldl_append, List.foldl_cons]
      obtain ⟨a1, a2⟩ := keep l1 _ d.1 _ (fun x hx => by simp [hx]) hIk hq
      have a3 := hstep _ _ a1 a2
      exact (keep l2 _ _ _ (fun x hx => by simp [hx]) (hI _ e he a1) a3).2
end
end Go.Proofs.Ytinijeejfnehmaa
