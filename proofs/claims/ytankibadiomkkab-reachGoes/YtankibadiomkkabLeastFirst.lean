/-
  Distances by taking the least of a pool first: what holds ahead of each taking, and what it comes to. S: the vertices that are settled (a list of the program's, or a ghost).
-/
import Derived.Test.YtankibadiomkkabPathFix
namespace Go.Proofs.Ytankibadiomkkab
set_option maxRecDepth 100000

structure LfI (n : Nat) (es : List Ed) (s : Int) (l : List Int) (pool : List (Int × Int)) (S : Int → Prop) : Prop where
  di : DI n es s l
  src : atD l s = 0
  own : ∀ v, S v → (0 ≤ v ∧ v < (n : Int)) ∧ 0 ≤ atD l v
  rx : ∀ e ∈ es, S e.1 → Rx l e
  least : ∀ v, S v → ∀ x ∈ pool, atD l v ≤ x.1
  past : ∀ x ∈ pool, S x.2 → atD l x.2 < x.1
  inn : ∀ x ∈ pool, (0 ≤ x.2 ∧ x.2 < (n : Int)) ∧ 0 ≤ atD l x.2 ∧ atD l x.2 ≤ x.1
  has : ∀ v : Int, 0 ≤ v ∧ v < (n : Int) → ¬ S v → 0 ≤ atD l v → (atD l v, v) ∈ pool
  nod : pool.Nodup
section
variable {n : Nat} {es : List Ed} {s : Int} {l : List Int} {pool : List (Int × Int)} {S : Int → Prop}
theorem LfI.start (hs : 0 ≤ s ∧ s < (n : Int)) : LfI n es s (dist0 n s) [(0, s)] fun _ => False := by
  have h0 : atD (dist0 n s) s = 0 := by unfold dist0; rw [atD_set (by simp) hs hs, if_pos rfl]
  refine ⟨di_start hs, h0, fun _ h => h.elim, fun _ _ h => h.elim, fun _ h => h.elim, fun _ _ h => h.elim, fun x hx => ?_, fun v hv _ h => ?_, by simp⟩
  · have e : x = (0, s) := by simpa using hx
    subst e
    exact ⟨hs, by rw [h0]; simp, by rw [h0]; simp⟩
  · have e : v = s := by
      apply Classical.byContradiction
      intro hne
      unfold dist0 at h
      rw [atD_set (by simp) hs hv, if_neg hne, rep_at] at h
      omega
    subst e
    rw [h0]
    simp
/-- The pool may stand in another order. -/
theorem LfI.perm {pool' : List (Int × Int)} (h : LfI n es s l pool S) (hp : pool.Perm pool') : LfI n es s l pool' S :=
  ⟨h.di, h.src, h.own, h.rx, fun v hv x hx => h.least v hv x (hp.mem_iff.2 hx), fun x hx => h.past x (hp.mem_iff.2 hx), fun x hx => h.inn x (hp.mem_iff.2 hx), fun v hv hn h0 => hp.mem_iff.1 (h.has v hv hn h0), hp.nodup_iff.1 h.nod⟩
/-- Each walk is told already, or something in the pool is no longer than it. -/
theorem LfI.walk (h : LfI n es s l pool S) (hg : InG n es) {p : List Ed} {v : Int} (hp : ∀ e ∈ p, e ∈ es) (hc : Chn s p v) : (0 ≤ atD l v ∧ atD l v ≤ sumW p) ∨ ∃ x ∈ pool, x.1 ≤ sumW p :=
  walk_ind (es := es) (P := fun p v => (0 ≤ atD l v ∧ atD l v ≤ sumW p) ∨ ∃ x ∈ pool, x.1 ≤ sumW p) (.inl (by rw [h.src, sumW_nil]; omega)) (fun p e hq he hd ih => by
    obtain ⟨f0, f1, t0, t1, w0⟩ := hg e he
    rw [sumW_app, sumW_cons, sumW_nil]
    rcases ih with ⟨i0, i1⟩ | ⟨x, hx, i1⟩
    · by_cases hS : S e.1
      · have := h.rx e he hS i0
        exact .inl (by omega)
      · exact .inr ⟨_, h.has e.1 ⟨f0, f1⟩ hS i0, by simp only; omega⟩
    · exact .inr ⟨x, hx, by omega⟩) p.length p v rfl hp hc
/-- With nothing left in the pool the distances stand there. -/
theorem LfI.done (h : LfI n es s l [] S) (hg : InG n es) : DistL n es s l := dist_fix h.di h.src fun e he h0 => by
  obtain ⟨f0, f1, t0, t1, w0⟩ := hg e he
  by_cases hS : S e.1
  · exact h.rx e he hS h0
  · have := h.has e.1 ⟨f0, f1⟩ hS h0
    simp at this
/-- What was settled, or told again lower: passed by. -/
theorem LfI.skip {d v : Int} (h : LfI n es s l ((d, v) :: pool) S) (hS : S v ∨ d ≠ atD l v) : LfI n es s l pool S :=
  ⟨h.di, h.src, h.own, h.rx, fun u hu x hx => h.least u hu x (by simp [hx]), fun x hx => h.past x (by simp [hx]), fun x hx => h.inn x (by simp [hx]), fun u hu hn h0 => by
    have hm := h.has u hu hn h0
    rcases List.mem_cons.1 hm with e | hm
    · injection e with e1 e2
      subst e2
      rcases hS with hS | hS
      · exact absurd hS hn
      · exact absurd e1.symm hS
    · exact hm, (List.nodup_cons.1 h.nod).2⟩
/-- What is passed by, told by what was settled and told by the numbers, is one thing: with the least ahead. -/
theorem LfI.live {d v : Int} (h : LfI n es s l ((d, v) :: pool) S) (hm : ∀ x ∈ pool, d ≤ x.1) : S v ↔ d ≠ atD l v := by
  obtain ⟨hv, h0, h1⟩ := h.inn (d, v) (by simp)
  refine ⟨fun hS => ?_, fun hne => Classical.byContradiction fun hS => ?_⟩
  · have := h.past (d, v) (by simp) hS
    simp only at this
    omega
  · have := h.has v hv hS h0
    simp only at h1
    rcases List.mem_cons.1 this with e | e
    · injection e with e1 _
      exact hne e1.symm
    · have := hm _ e
      simp only at this
      omega
/-- The least one's number is its distance. -/
theorem LfI.dst {d v : Int} (h : LfI n es s l ((d, v) :: pool) S) (hg : InG n es) (hm : ∀ x ∈ pool, d ≤ x.1) (he : d = atD l v) : Dst es s v d := by
  obtain ⟨hv, h0, h1⟩ := h.inn (d, v) (by simp)
  simp only at hv h0 h1
  refine ⟨?_, fun p hp hc => ?_⟩
  · rcases h.di.2 v hv with g | ⟨_, g⟩
    · omega
    · rw [he]; exact g
  · rcases h.walk hg hp hc with g | ⟨x, hx, g⟩
    · omega
    · rcases List.mem_cons.1 hx with e | hx
      · rw [e] at g; exact g
      · have := hm x hx; omega
theorem dst_most {v d : Int} (hg : InG n es) {M : Int} (hM : 0 ≤ M) (hw : ∀ e ∈ es, e.2.2 ≤ M) (hs : 0 ≤ s ∧ s < (n : Int)) (h : Dst es s v d) : d ≤ n * M := by
  obtain ⟨⟨p, hp, hc, _⟩, hm⟩ := h
  obtain ⟨q, hq, hd, hl, _⟩ := chn_short hg p.length (Nat.le_refl _) hp hs hc
  have h1 := hm q hq hd
  have h2 := sumW_most (p := q) (M := M) fun e he => hw e (hq e he)
  have h3 : (q.length : Int) * M ≤ n * M := Int.mul_le_mul_of_nonneg_right (by omega) hM
  omega
/-- While the edges of v are told, d its distance: rest are those that are not told yet. -/
structure LfM (n : Nat) (es : List Ed) (s : Int) (l : List Int) (pool : List (Int × Int)) (S : Int → Prop) (v d : Int) (rest : List Ed) : Prop where
  di : DI n es s l
  sin : 0 ≤ s ∧ s < (n : Int)
  src : atD l s = 0
  pos : 0 ≤ d
  vin : 0 ≤ v ∧ v < (n : Int)
  here : atD l v = d
  not : ¬ S v
  own : ∀ u, S u → (0 ≤ u ∧ u < (n : Int)) ∧ 0 ≤ atD l u ∧ atD l u ≤ d
  rx : ∀ e ∈ es, S e.1 → Rx l e
  told : ∀ e ∈ es, e.1 = v → e ∈ rest ∨ Rx l e
  least : ∀ x ∈ pool, d ≤ x.1
  past : ∀ x ∈ pool, S x.2 ∨ x.2 = v → atD l x.2 < x.1
  inn : ∀ x ∈ pool, (0 ≤ x.2 ∧ x.2 < (n : Int)) ∧ 0 ≤ atD l x.2 ∧ atD l x.2 ≤ x.1
  has : ∀ u : Int, 0 ≤ u ∧ u < (n : Int) → ¬ S u → u ≠ v → 0 ≤ atD l u → (atD l u, u) ∈ pool
  nod : pool.Nodup
theorem LfI.take {d v : Int} {rest : List Ed} (hs : 0 ≤ s ∧ s < (n : Int)) (h : LfI n es s l ((d, v) :: pool) S) (hm : ∀ x ∈ pool, d ≤ x.1) (he : d = atD l v) (hr : ∀ e ∈ es, e.1 = v → e ∈ rest) : LfM n es s l pool S v d rest := by
  obtain ⟨hv, h0, h1⟩ := h.inn (d, v) (by simp)
  obtain ⟨n1, n2⟩ := List.nodup_cons.1 h.nod
  have hS : ¬ S v := fun hS => (h.live hm).1 hS he
  refine ⟨h.di, hs, h.src, by rw [he]; exact h0, hv, he.symm, hS, fun u hu => ⟨(h.own u hu).1, (h.own u hu).2, h.least u hu (d, v) (by simp)⟩, h.rx, fun e h1 h2 => .inl (hr e h1 h2), hm, fun x hx hS' => ?_, fun x hx => h.inn x (by simp [hx]), fun u hu hn hne g => ?_, n2⟩
  · rcases hS' with g | g
    · exact h.past x (by simp [hx]) g
    · have g1 := (h.inn x (by simp [hx])).2.2
      have g2 : x.1 ≠ d := fun e => n1 (by rw [← e, ← g]; exact hx)
      rw [g] at g1 ⊢
      omega
  · rcases List.mem_cons.1 (h.has u hu hn g) with e | e
    · injection e with _ e2
      exact absurd e2 hne
    · exact e
theorem LfM.none {v d : Int} (h : LfM n es s l pool S v d []) : LfI n es s l pool fun u => S u ∨ u = v := by
  refine ⟨h.di, h.src, fun u hu => ?_, fun e he hS => ?_, fun u hu x hx => ?_, h.past, h.inn, fun u hu hn g => h.has u hu (fun a => hn (.inl a)) (fun a => hn (.inr a)) g, h.nod⟩
  · rcases hu with hu | hu
    · exact ⟨(h.own u hu).1, (h.own u hu).2.1⟩
    · rw [hu]; exact ⟨h.vin, by rw [h.here]; exact h.pos⟩
  · rcases hS with hS | hS
    · exact h.rx e he hS
    · exact (h.told e he hS).resolve_left (by simp)
  · have := h.least x hx
    rcases hu with hu | hu
    · have := (h.own u hu).2.2; omega
    · rw [hu, h.here]; exact this
/-- An edge that is not lower. -/
theorem LfM.no {v d : Int} {e : Ed} {rest : List Ed} (h : LfM n es s l pool S v d (e :: rest)) (hc : e.1 = v → ¬ (atD l e.2.1 < 0 ∨ atD l v + e.2.2 < atD l e.2.1)) : LfM n es s l pool S v d rest :=
  ⟨h.di, h.sin, h.src, h.pos, h.vin, h.here, h.not, h.own, h.rx, fun f hf hv => by
    rcases h.told f hf hv with g | g
    · rcases List.mem_cons.1 g with e1 | g
      · subst e1
        have := hc hv
        refine .inr fun _ => ?_
        rw [hv]
        omega
      · exact .inl g
    · exact .inr g, h.least, h.past, h.inn, h.has, h.nod⟩
/-- An edge that is lower: its end goes into the pool. -/
theorem LfM.yes {v d : Int} {e : Ed} {rest : List Ed} (hg : InG n es) (h : LfM n es s l pool S v d (e :: rest)) (he : e ∈ es) (hv : e.1 = v) (hc : atD l e.2.1 < 0 ∨ d + e.2.2 < atD l e.2.1) :
    LfM n es s (l.set e.2.1.toNat (d + e.2.2)) ((d + e.2.2, e.2.1) :: pool) S v d rest := by
  obtain ⟨f0, f1, t0, t1, w0⟩ := hg e he
  have hl := h.di.1
  have hpos := h.pos
  have hD : DI n es s (l.set e.2.1.toNat (d + e.2.2)) := by
    have := di_step hg l e he h.di
    unfold rlx at this
    rw [hv, h.here, if_pos ⟨h.pos, hc⟩] at this
    exact this
  have hat : ∀ u : Int, 0 ≤ u ∧ u < (n : Int) → atD (l.set e.2.1.toNat (d + e.2.2)) u = if u = e.2.1 then d + e.2.2 else atD l u := fun u hu => atD_set hl ⟨t0, t1⟩ hu
  have hne : v ≠ e.2.1 := fun e1 => by have := h.here; rw [e1] at this; omega
  have hnS : ¬ S e.2.1 := fun hS => by have := h.own _ hS; omega
  have hSin : ∀ u, S u → u ≠ e.2.1 := fun u hu e1 => hnS (e1 ▸ hu)
  have hsne : s ≠ e.2.1 := fun e1 => by have := h.src; rw [e1] at this; omega
  have hold : ∀ u : Int, 0 ≤ u ∧ u < (n : Int) → u ≠ e.2.1 → atD (l.set e.2.1.toNat (d + e.2.2)) u = atD l u := fun u hu hn => by rw [hat u hu, if_neg hn]
  have hnew : atD (l.set e.2.1.toNat (d + e.2.2)) e.2.1 = d + e.2.2 := by rw [hat _ ⟨t0, t1⟩, if_pos rfl]
  have hrx : ∀ f ∈ es, f.1 ≠ e.2.1 → Rx l f → Rx (l.set e.2.1.toNat (d + e.2.2)) f := fun f hf hn g g0 => by
    obtain ⟨a0, a1, b0, b1, c0⟩ := hg f hf
    rw [hold _ ⟨a0, a1⟩ hn] at g0 ⊢
    have := g g0
    by_cases e1 : f.2.1 = e.2.1
    · rw [e1, hnew]
      rw [e1] at this
      omega
    · rw [hold _ ⟨b0, b1⟩ e1]
      exact this
  refine ⟨hD, h.sin, by rw [hold _ h.sin hsne]; exact h.src, h.pos, h.vin, by rw [hold _ h.vin hne]; exact h.here, h.not, fun u hu => ?_, fun f hf hS => hrx f hf (hSin _ hS) (h.rx f hf hS), fun f hf hv' => ?_, fun x hx => ?_, fun x hx hS => ?_, fun x hx => ?_, fun u hu hn hnv g => ?_, List.nodup_cons.2 ⟨fun hx => ?_, h.nod⟩⟩
  · obtain ⟨a, b⟩ := h.own u hu
    rw [hold _ a (hSin u hu)]
    exact ⟨a, b⟩
  · rcases h.told f hf hv' with g | g
    · rcases List.mem_cons.1 g with e1 | g
      · subst e1
        refine .inr fun _ => ?_
        rw [hnew, hv', hold _ h.vin hne, h.here]
        have := h.pos
        omega
      · exact .inl g
    · exact .inr (hrx f hf (by rw [hv']; exact hne) g)
  · rcases List.mem_cons.1 hx with e1 | hx
    · subst e1; simp only; omega
    · exact h.least x hx
  · rcases List.mem_cons.1 hx with e1 | hx
    · subst e1
      rcases hS with g | g
      · exact absurd g hnS
      · exact absurd g.symm hne
    · rw [hold _ (h.inn x hx).1 (by rcases hS with g | g; exact hSin _ g; rw [g]; exact hne)]
      exact h.past x hx hS
  · rcases List.mem_cons.1 hx with e1 | hx
    · subst e1
      have := h.pos
      exact ⟨⟨t0, t1⟩, by rw [hnew]; omega, by rw [hnew]; exact Int.le_refl _⟩
    · obtain ⟨a, b, c⟩ := h.inn x hx
      have := h.pos
      refine ⟨a, ?_⟩
      rw [hat _ a]
      by_cases e1 : x.2 = e.2.1
      · rw [if_pos e1]
        rw [e1] at b c
        omega
      · rw [if_neg e1]
        exact ⟨b, c⟩
  · by_cases e1 : u = e.2.1
    · rw [e1, hnew]; simp
    · rw [hold u hu e1] at g ⊢
      exact List.mem_cons.2 (.inr (h.has u hu hn hnv g))
  · have := h.inn _ hx
    simp only at this
    omega
/-- Settled, said in another way. -/
theorem LfI.same {S' : Int → Prop} (h : LfI n es s l pool S) (hS : ∀ u, S u ↔ S' u) : LfI n es s l pool S' := by
  have e : S = S' := funext fun u => propext (hS u)
  rw [← e]
  exact h
end
/-- How many edges begin at a vertex that is not settled: what the pool may still get. -/
def opn (es : List Ed) (b : Int → Bool) : Nat := (es.filter fun e => !b e.1).length
def outs (es : List Ed) (v : Int) : List Ed := es.filter fun e => e.1 == v
theorem outs_mem {es : List Ed} {v : Int} {e : Ed} : e ∈ outs es v ↔ e ∈ es ∧ e.1 = v := by simp [outs]
theorem opn_take {b : Int → Bool} {v : Int} (h : b v = false) : ∀ es : List Ed, opn es (fun u => b u || u == v) + (outs es v).length = opn es b
  | [] => rfl
  | e :: es => by
    have ih := opn_take h es
    unfold opn outs at ih ⊢
    rw [List.filter_cons, List.filter_cons, List.filter_cons]
    by_cases e1 : e.1 = v
    · subst e1
      simp [h] at ih ⊢
      omega
    · have e2 : (e.1 == v) = false := by simpa using e1
      cases hb : b e.1 <;> simp [hb, e2] at ih ⊢ <;> omega
theorem opn_all (es : List Ed) : opn es (fun _ => false) = es.length := by simp [opn]
end Go.Proofs.Ytankibadiomkkab
