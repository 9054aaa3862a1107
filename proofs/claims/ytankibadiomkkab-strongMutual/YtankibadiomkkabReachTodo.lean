/-
  What is reached, found by a list of vertices whose edges are to be looked at (a stack, a queue, whichever); paths of turned edges.
-/
import Derived.Test.YtankibadiomkkabPathFix
namespace Go.Proofs.Ytankibadiomkkab
set_option maxRecDepth 100000

/-- Paths know of edges only whether they are there. -/
theorem rch_mem {es ds : List Ed} (h : ∀ e ∈ es, e ∈ ds) {u v : Int} (hr : Rch es u v) : Rch ds u v := by
  obtain ⟨p, hp, hc⟩ := hr
  exact ⟨p, fun e he => h e (hp e he), hc⟩
theorem rch_turn {es ds : List Ed} (h : ∀ e ∈ es, ∃ x, (e.2.1, e.1, x) ∈ ds) {u v : Int} (hr : Rch es u v) : Rch ds v u := by
  obtain ⟨p, hp, hc⟩ := hr
  exact walk_ind (es := es) (P := fun _ v => Rch ds v u) (Rch.refl _ _) (fun p e _ he _ ih => by
    obtain ⟨x, hx⟩ := h e he
    exact Rch.trans ⟨[(e.2.1, e.1, x)], by simpa using hx, ⟨rfl, rfl⟩⟩ ih) p.length p v rfl hp hc

structure TdM (n : Nat) (es : List Ed) (s : Int) (l : List Bool) (todo : List Int) (v : Int) (rest : List Ed) : Prop where
  ri : RI n es s l
  src : atB l s = true
  inn : ∀ u ∈ todo, (0 ≤ u ∧ u < (n : Int)) ∧ atB l u = true
  told : ∀ e ∈ es, atB l e.1 = true → atB l e.2.1 = true ∨ e.1 ∈ todo ∨ (e.1 = v ∧ e ∈ rest)
section
variable {n : Nat} {es : List Ed} {s : Int} {l : List Bool} {todo : List Int}
theorem ri_start (hs : 0 ≤ s ∧ s < (n : Int)) : RI n es s (reach0 n s) := ⟨reach0_len n s, fun v hv => by
  unfold reach0
  rw [atB_set (by simp) hs hv]
  by_cases e : v = s
  · intro _; rw [e]; exact Rch.refl _ _
  · rw [if_neg e, repB_at]; intro h; cases h⟩
theorem reach0_at (hs : 0 ≤ s ∧ s < (n : Int)) {v : Int} (hv : 0 ≤ v ∧ v < (n : Int)) : atB (reach0 n s) v = true ↔ v = s := by
  unfold reach0
  rw [atB_set (by simp) hs hv, repB_at]
  by_cases e : v = s <;> simp [e]
theorem TdM.start (hg : InG n es) (hs : 0 ≤ s ∧ s < (n : Int)) (v : Int) : TdM n es s (reach0 n s) [s] v [] :=
  ⟨ri_start hs, (reach0_at hs hs).2 rfl, fun u hu => by have e : u = s := by simpa using hu
                                                        subst e; exact ⟨hs, (reach0_at hs hs).2 rfl⟩, fun e he h => by
    obtain ⟨f0, f1, _⟩ := hg e he
    have := (reach0_at hs ⟨f0, f1⟩).1 h
    exact .inr (.inl (by simp [this]))⟩
/-- Between two vertices: v is any. -/
theorem TdM.any {v w : Int} {ds : List Ed} (h : TdM n es s l todo v []) : TdM n es s l todo w ds := ⟨h.ri, h.src, h.inn, fun e he g => by
  rcases h.told e he g with g | g | ⟨_, g⟩
  · exact .inl g
  · exact .inr (.inl g)
  · simp at g⟩
theorem TdM.done {v : Int} (h : TdM n es s l [] v []) : ReachL n es s l := reach_fix h.ri h.src fun e he g => by
  rcases h.told e he g with g | g | ⟨_, g⟩
  · exact g
  · simp at g
  · simp at g
/-- A vertex is taken out of the list: all its edges are to be told. -/
theorem TdM.take {v w : Int} {todo' : List Int} {rest : List Ed} (h : TdM n es s l todo w []) (h1 : ∀ u ∈ todo, u = v ∨ u ∈ todo') (h2 : ∀ u ∈ todo', u ∈ todo) (hr : ∀ e ∈ es, e.1 = v → e ∈ rest) : TdM n es s l todo' v rest :=
  ⟨h.ri, h.src, fun u hu => h.inn u (h2 u hu), fun e he g => by
    rcases h.told e he g with g | g | ⟨_, g⟩
    · exact .inl g
    · rcases h1 _ g with g | g
      · exact .inr (.inr ⟨g, hr e he g⟩)
      · exact .inr (.inl g)
    · simp at g⟩
/-- An edge of another vertex, or one whose end was reached. -/
theorem TdM.no {v : Int} {e : Ed} {rest : List Ed} (h : TdM n es s l todo v (e :: rest)) (hc : e.1 = v → atB l e.2.1 = true) : TdM n es s l todo v rest := ⟨h.ri, h.src, h.inn, fun f hf g => by
  rcases h.told f hf g with g | g | ⟨g1, g2⟩
  · exact .inl g
  · exact .inr (.inl g)
  · rcases List.mem_cons.1 g2 with e1 | g2
    · subst e1; exact .inl (hc g1)
    · exact .inr (.inr ⟨g1, g2⟩)⟩
/-- An edge whose end was not reached yet. -/
theorem TdM.yes {v : Int} {e : Ed} {rest : List Ed} {todo' : List Int} (hg : InG n es) (h : TdM n es s l todo v (e :: rest)) (he : e ∈ es) (hv : atB l e.1 = true) (ht : ∀ u, u ∈ todo' ↔ u = e.2.1 ∨ u ∈ todo) : TdM n es s (l.set e.2.1.toNat true) todo' v rest := by
  obtain ⟨f0, f1, t0, t1, w0⟩ := hg e he
  have hl := h.ri.1
  have hat : ∀ u : Int, 0 ≤ u ∧ u < (n : Int) → atB (l.set e.2.1.toNat true) u = if u = e.2.1 then true else atB l u := fun u hu => atB_set hl ⟨t0, t1⟩ hu
  have hup : ∀ u : Int, 0 ≤ u ∧ u < (n : Int) → atB l u = true → atB (l.set e.2.1.toNat true) u = true := fun u hu g => by rw [hat u hu, g]; simp
  have hR : RI n es s (l.set e.2.1.toNat true) := by
    have := ri_step hg l e he h.ri
    unfold rcS at this
    rw [if_pos hv] at this
    exact this
  have hs : atB (l.set e.2.1.toNat true) s = true := by
    by_cases hsn : 0 ≤ s ∧ s < (n : Int)
    · exact hup s hsn h.src
    · have := h.src
      unfold atB at this ⊢
      rw [List.getD_eq_getElem?_getD] at this ⊢
      by_cases e1 : e.2.1.toNat = s.toNat
      · rw [e1, List.getElem?_set_self (by omega)]; rfl
      · rw [List.getElem?_set_ne e1]; exact this
  refine ⟨hR, hs, fun u hu => ?_, fun f hf g => ?_⟩
  · rcases (ht u).1 hu with g | g
    · subst g; exact ⟨⟨t0, t1⟩, by rw [hat _ ⟨t0, t1⟩, if_pos rfl]⟩
    · exact ⟨(h.inn u g).1, hup u (h.inn u g).1 (h.inn u g).2⟩
  · obtain ⟨a0, a1, b0, b1, _⟩ := hg f hf
    by_cases e1 : f.1 = e.2.1
    · exact .inr (.inl ((ht _).2 (.inl e1)))
    · rw [hat _ ⟨a0, a1⟩, if_neg e1] at g
      rcases h.told f hf g with g | g | ⟨g1, g2⟩
      · exact .inl (hup _ ⟨b0, b1⟩ g)
      · exact .inr (.inl ((ht _).2 (.inr g)))
      · rcases List.mem_cons.1 g2 with e2 | g2
        · subst e2; exact .inl (by rw [hat _ ⟨t0, t1⟩, if_pos rfl])
        · exact .inr (.inr ⟨g1, g2⟩)
/-- One fewer is not reached yet. -/
theorem unm_set {v : Int} (hl : l.length = n) (hv : 0 ≤ v ∧ v < (n : Int)) (h : atB l v = false) : (l.set v.toNat true).count false + 1 = l.count false := by
  have hi : v.toNat < l.length := by omega
  have hg : l[v.toNat] = false := by
    unfold atB at h
    rw [List.getD_eq_getElem?_getD, List.getElem?_eq_getElem hi] at h
    exact h
  have hp : 0 < l.count false := List.count_pos_iff.2 (by rw [← hg]; exact List.getElem_mem hi)
  rw [List.count_set hi, hg]
  simp
  omega
end
end Go.Proofs.Ytankibadiomkkab
