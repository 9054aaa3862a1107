/-
  Distances by a pool whose least is taken first, where a vertex has its number only once it is taken: what holds all along, and what it comes to.
-/
import Derived.Test.YtankibadiomkkaaLeastFirst
namespace Go.Proofs.Ytankibadiomkkaa
set_option maxRecDepth 100000

/-- pool: sums and the vertices that they lead to; rest: those edges of v that are not told yet. -/
structure PlM (n : Nat) (es : List Ed) (s : Int) (l : List Int) (pool : List (Int × Int)) (v : Int) (rest : List Ed) : Prop where
  len : l.length = n
  dst : ∀ u : Int, 0 ≤ u ∧ u < (n : Int) → atD l u = -1 ∨ (0 ≤ atD l u ∧ Dst es s u (atD l u))
  inn : ∀ x ∈ pool, (0 ≤ x.2 ∧ x.2 < (n : Int)) ∧ ∃ p, (∀ e ∈ p, e ∈ es) ∧ Chn s p x.2 ∧ sumW p = x.1
  src : 0 ≤ atD l s ∨ ((0 : Int), s) ∈ pool
  told : ∀ e ∈ es, 0 ≤ atD l e.1 → 0 ≤ atD l e.2.1 ∨ (∃ x ∈ pool, x.2 = e.2.1 ∧ x.1 ≤ atD l e.1 + e.2.2) ∨ (e.1 = v ∧ e ∈ rest)
section
variable {n : Nat} {es : List Ed} {s : Int} {l : List Int} {pool : List (Int × Int)}
theorem PlM.start (hs : 0 ≤ s ∧ s < (n : Int)) (v : Int) : PlM n es s (List.replicate n (-1)) [(0, s)] v [] := by
  refine ⟨by simp, fun u _ => .inl rep_at, fun x hx => ?_, .inr (by simp), fun e _ h => ?_⟩
  · have e : x = (0, s) := by simpa using hx
    subst e
    exact ⟨hs, [], by simp, rfl, rfl⟩
  · rw [rep_at] at h; omega
/-- The pool may stand in another order. -/
theorem PlM.perm {pool' : List (Int × Int)} {v : Int} {rest : List Ed} (h : PlM n es s l pool v rest) (hp : ∀ x, x ∈ pool ↔ x ∈ pool') : PlM n es s l pool' v rest :=
  ⟨h.len, h.dst, fun x hx => h.inn x ((hp x).2 hx), h.src.imp id fun g => (hp _).1 g, fun e he g => by
    rcases h.told e he g with g | ⟨x, hx, g⟩ | g
    · exact .inl g
    · exact .inr (.inl ⟨x, (hp x).1 hx, g⟩)
    · exact .inr (.inr g)⟩
/-- Between two vertices: v is any. -/
theorem PlM.any {v w : Int} {ds : List Ed} (h : PlM n es s l pool v []) : PlM n es s l pool w ds := ⟨h.len, h.dst, h.inn, h.src, fun e he g => by
  rcases h.told e he g with g | g | ⟨_, g⟩
  · exact .inl g
  · exact .inr (.inl g)
  · simp at g⟩
/-- Each walk is told already, or something in the pool is no longer than it. -/
theorem PlM.walk {w : Int} (h : PlM n es s l pool w []) (hg : InG n es) (hs : 0 ≤ s ∧ s < (n : Int)) {p : List Ed} {v : Int} (hp : ∀ e ∈ p, e ∈ es) (hc : Chn s p v) : (0 ≤ atD l v ∧ atD l v ≤ sumW p) ∨ ∃ x ∈ pool, x.1 ≤ sumW p :=
  walk_ind (es := es) (P := fun p v => (0 ≤ atD l v ∧ atD l v ≤ sumW p) ∨ ∃ x ∈ pool, x.1 ≤ sumW p) (by
    rcases h.src with g | g
    · rcases h.dst s hs with g1 | ⟨_, _, g2⟩
      · omega
      · exact .inl ⟨g, g2 [] (by simp) rfl⟩
    · exact .inr ⟨_, g, by rw [sumW_nil]; exact Int.le_refl _⟩) (fun p e hq he hd ih => by
    obtain ⟨f0, f1, t0, t1, w0⟩ := hg e he
    rcases ih with ⟨i0, i1⟩ | ⟨x, hx, i1⟩
    · rcases h.told e he i0 with g | ⟨x, hx, _, g⟩ | ⟨_, g⟩
      · rcases h.dst e.2.1 ⟨t0, t1⟩ with g1 | ⟨_, _, g2⟩
        · omega
        · exact .inl ⟨g, g2 (p ++ [e]) (fun d hd => by rcases List.mem_append.1 hd with h | h; exact hq d h; simp at h; rw [h]; exact he) (chn_app hd ⟨rfl, rfl⟩)⟩
      · exact .inr ⟨x, hx, by rw [sumW_app, sumW_cons, sumW_nil]; omega⟩
      · simp at g
    · exact .inr ⟨x, hx, by rw [sumW_app, sumW_cons, sumW_nil]; omega⟩) p.length p v rfl hp hc
/-- With nothing left in the pool the distances stand there. -/
theorem PlM.done {w : Int} (h : PlM n es s l [] w []) (hg : InG n es) (hs : 0 ≤ s ∧ s < (n : Int)) : DistL n es s l := ⟨h.len, fun v hv => by
  rcases h.dst v hv with g | ⟨g0, g⟩
  · refine .inl ⟨g, fun ⟨p, hp, hc⟩ => ?_⟩
    rcases h.walk hg hs hp hc with g1 | ⟨x, hx, _⟩
    · omega
    · simp at hx
  · exact .inr ⟨g0, g⟩⟩
/-- What has its number is passed by. -/
theorem PlM.skip {d v w : Int} (h : PlM n es s l ((d, v) :: pool) w []) (hv : 0 ≤ atD l v) : PlM n es s l pool w [] :=
  ⟨h.len, h.dst, fun x hx => h.inn x (by simp [hx]), by
    rcases h.src with g | g
    · exact .inl g
    · rcases List.mem_cons.1 g with e | g
      · injection e with _ e
        rw [e]; exact .inl hv
      · exact .inr g, fun e he g => by
    rcases h.told e he g with g | ⟨x, hx, g1, g2⟩ | ⟨_, g⟩
    · exact .inl g
    · rcases List.mem_cons.1 hx with e1 | hx
      · subst e1
        rw [← g1]
        exact .inl hv
      · exact .inr (.inl ⟨x, hx, g1, g2⟩)
    · simp at g⟩
/-- The least one's sum is its distance. -/
theorem PlM.least {d v w : Int} (h : PlM n es s l ((d, v) :: pool) w []) (hg : InG n es) (hs : 0 ≤ s ∧ s < (n : Int)) (hm : ∀ x ∈ pool, d ≤ x.1) (hv : atD l v = -1) : 0 ≤ d ∧ Dst es s v d := by
  obtain ⟨hvi, p, hp, hc, hw⟩ := h.inn (d, v) (by simp)
  simp only at hvi hc hw
  have := sumW_nn hg hp
  refine ⟨by omega, ⟨p, hp, hc, hw⟩, fun q hq hd => ?_⟩
  rcases h.walk hg hs hq hd with g | ⟨x, hx, g⟩
  · omega
  · rcases List.mem_cons.1 hx with e | hx
    · rw [e] at g; exact g
    · have := hm x hx; omega
theorem PlM.take {d v w : Int} {rest : List Ed} (h : PlM n es s l ((d, v) :: pool) w []) (hg : InG n es) (hs : 0 ≤ s ∧ s < (n : Int)) (hm : ∀ x ∈ pool, d ≤ x.1) (hv : atD l v = -1) (hr : ∀ e ∈ es, e.1 = v → e ∈ rest) : PlM n es s (l.set v.toNat d) pool v rest := by
  obtain ⟨d0, hd⟩ := h.least hg hs hm hv
  have hvi := (h.inn (d, v) (by simp)).1
  simp only at hvi
  have hat : ∀ u : Int, 0 ≤ u ∧ u < (n : Int) → atD (l.set v.toNat d) u = if u = v then d else atD l u := fun u hu => atD_set h.len hvi hu
  have hup : ∀ u : Int, 0 ≤ u ∧ u < (n : Int) → 0 ≤ atD l u → 0 ≤ atD (l.set v.toNat d) u := fun u hu g => by rw [hat u hu]; split <;> assumption
  refine ⟨by rw [List.length_set]; exact h.len, fun u hu => ?_, fun x hx => h.inn x (by simp [hx]), ?_, fun e he g => ?_⟩
  · rw [hat u hu]
    by_cases e : u = v
    · rw [if_pos e, e]; exact .inr ⟨d0, hd⟩
    · rw [if_neg e]; exact h.dst u hu
  · rcases h.src with g | g
    · exact .inl (hup s hs g)
    · rcases List.mem_cons.1 g with e | g
      · injection e with _ e
        refine .inl ?_
        rw [hat s hs, if_pos e]; exact d0
      · exact .inr g
  · obtain ⟨a0, a1, b0, b1, _⟩ := hg e he
    by_cases e1 : e.1 = v
    · exact .inr (.inr ⟨e1, hr e he e1⟩)
    · rw [hat _ ⟨a0, a1⟩, if_neg e1] at g ⊢
      rcases h.told e he g with g | ⟨x, hx, g1, g2⟩ | ⟨_, g⟩
      · exact .inl (hup _ ⟨b0, b1⟩ g)
      · rcases List.mem_cons.1 hx with e2 | hx
        · subst e2
          simp only at g1
          refine .inl ?_
          rw [hat _ ⟨b0, b1⟩, if_pos g1.symm]; exact d0
        · exact .inr (.inl ⟨x, hx, g1, g2⟩)
      · simp at g
/-- One more edge of v is told. -/
theorem PlM.push {d v : Int} {e : Ed} {rest : List Ed} (h : PlM n es s l pool v (e :: rest)) (hg : InG n es) (he : e ∈ es) (hv : e.1 = v) (hd : atD l v = d) (h0 : 0 ≤ d) : PlM n es s l ((d + e.2.2, e.2.1) :: pool) v rest := by
  obtain ⟨f0, f1, t0, t1, w0⟩ := hg e he
  refine ⟨h.len, h.dst, fun x hx => ?_, h.src.imp id fun g => by simp [g], fun f hf g => ?_⟩
  · rcases List.mem_cons.1 hx with e1 | hx
    · subst e1
      refine ⟨⟨t0, t1⟩, ?_⟩
      rcases h.dst v (by rw [← hv]; exact ⟨f0, f1⟩) with g | ⟨_, ⟨p, hp, hc, hw⟩, _⟩
      · omega
      · refine ⟨p ++ [e], fun f hf => ?_, chn_app hc ⟨hv, rfl⟩, ?_⟩
        · rcases List.mem_append.1 hf with hf | hf
          · exact hp f hf
          · simp at hf; rw [hf]; exact he
        · rw [sumW_app, hw, hd, sumW_cons, sumW_nil]; simp only; omega
    · exact h.inn x hx
  · rcases h.told f hf g with g | ⟨x, hx, g1⟩ | ⟨g1, g2⟩
    · exact .inl g
    · exact .inr (.inl ⟨x, by simp [hx], g1⟩)
    · rcases List.mem_cons.1 g2 with e1 | g2
      · subst e1
        exact .inr (.inl ⟨(d + f.2.2, f.2.1), by simp, rfl, by rw [hv, hd]; exact Int.le_refl _⟩)
      · exact .inr (.inr ⟨g1, g2⟩)
/-- A number of a vertex is at most so many times the greatest weight. -/
theorem PlM.most {w v : Int} {rest : List Ed} {M : Int} (h : PlM n es s l pool w rest) (hg : InG n es) (hs : 0 ≤ s ∧ s < (n : Int)) (hM : 0 ≤ M) (hw : ∀ e ∈ es, e.2.2 ≤ M) (hv : 0 ≤ v ∧ v < (n : Int)) : atD l v ≤ n * M := by
  rcases h.dst v hv with g | ⟨_, g⟩
  · have : (0 : Int) ≤ n * M := Int.mul_nonneg (by omega) hM
    omega
  · exact dst_most hg hM hw hs g
end
/-- Vertices that have their number. -/
def hasN (l : List Int) (u : Int) : Bool := decide (0 ≤ atD l u)
/-- v has its number now: its edges are no longer open. -/
theorem opn_set {n : Nat} {es : List Ed} {l : List Int} {v d : Int} (hg : InG n es) (hl : l.length = n) (hv : 0 ≤ v ∧ v < (n : Int)) (h : atD l v = -1) (hd : 0 ≤ d) : opn es (hasN (l.set v.toNat d)) + (outs es v).length = opn es (hasN l) := by
  have hb : hasN l v = false := by simp [hasN, h]
  rw [← opn_take hb es]
  congr 1
  unfold opn
  congr 1
  refine List.filter_congr fun e he => ?_
  obtain ⟨f0, f1, _⟩ := hg e he
  unfold hasN
  rw [atD_set hl hv ⟨f0, f1⟩]
  by_cases e1 : e.1 = v
  · simp [e1, hd]
  · simp [e1]
end Go.Proofs.Ytankibadiomkkaa
