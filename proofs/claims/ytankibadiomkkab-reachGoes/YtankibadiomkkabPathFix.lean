/-
  When a list is the one that P12 asks for, whichever way it was come by: no edge has anything left to tell, and nothing was told that is not so.
-/
import Derived.Test.YtankibadiomkkabPathLists
namespace Go.Proofs.Ytankibadiomkkab
set_option maxRecDepth 100000

theorem sumW_most {p : List Ed} {M : Int} (h : ∀ e ∈ p, e.2.2 ≤ M) : sumW p ≤ p.length * M := by
  induction p with
  | nil => simp [sumW]
  | cons e p ih =>
    have h1 := h e (by simp)
    have h2 := ih (fun d hd => h d (by simp [hd]))
    rw [sumW_cons, List.length_cons]
    have : ((p.length + 1 : Nat) : Int) * M = p.length * M + M := by rw [Int.natCast_add, Int.add_mul]; simp
    omega
/-- Walks, one edge behind another. -/
theorem walk_ind {es : List Ed} {s : Int} {P : List Ed → Int → Prop} (h0 : P [] s) (h1 : ∀ p e, (∀ d ∈ p, d ∈ es) → e ∈ es → Chn s p e.1 → P p e.1 → P (p ++ [e]) e.2.1) : ∀ (k : Nat) (p : List Ed) (v : Int), p.length = k → (∀ d ∈ p, d ∈ es) → Chn s p v → P p v
  | 0, p, v, hk, _, hc => by
    have e : p = [] := List.length_eq_zero_iff.1 hk
    subst e
    have hc' : s = v := hc
    rw [← hc']
    exact h0
  | k + 1, p, v, hk, hp, hc => by
    have hne : p ≠ [] := by intro e; rw [e] at hk; simp at hk
    have e1 : p = p.dropLast ++ [p.getLast hne] := (List.dropLast_concat_getLast hne).symm
    have hl : p.dropLast.length = k := by rw [List.length_dropLast]; omega
    generalize p.dropLast = q at e1 hl
    generalize p.getLast hne = e at e1
    subst e1
    obtain ⟨c1, c2⟩ := chn_snoc hc
    have hq : ∀ d ∈ q, d ∈ es := fun d hd => hp d (by simp [hd])
    rw [← c2]
    exact h1 q e hq (hp e (by simp)) c1 (walk_ind h0 h1 k q e.1 hl hq c1)

/-- An edge that has nothing left to tell. -/
def Rx (l : List Int) (e : Ed) : Prop := 0 ≤ atD l e.1 → 0 ≤ atD l e.2.1 ∧ atD l e.2.1 ≤ atD l e.1 + e.2.2
theorem dist_fix {n : Nat} {es : List Ed} {s : Int} {l : List Int} (h : DI n es s l) (h0 : atD l s = 0) (hr : ∀ e ∈ es, Rx l e) : DistL n es s l := by
  have hA : ∀ (p : List Ed) (v : Int), (∀ e ∈ p, e ∈ es) → Chn s p v → 0 ≤ atD l v ∧ atD l v ≤ sumW p := fun p v hp hc =>
    walk_ind (P := fun p v => 0 ≤ atD l v ∧ atD l v ≤ sumW p) (by rw [h0, sumW_nil]; omega) (fun p e _ he _ ih => by
      have := hr e he ih.1
      rw [sumW_app, sumW_cons, sumW_nil]
      omega) p.length p v rfl hp hc
  refine ⟨h.1, fun v hv => ?_⟩
  rcases h.2 v hv with h' | ⟨g0, p, hp, hc, hw⟩
  · refine .inl ⟨h', fun ⟨p, hp, hc⟩ => ?_⟩
    have := hA p v hp hc
    omega
  · exact .inr ⟨g0, ⟨p, hp, hc, hw⟩, fun q hq hd => (hA q v hq hd).2⟩
theorem reach_fix {n : Nat} {es : List Ed} {s : Int} {l : List Bool} (h : RI n es s l) (h0 : atB l s = true) (hr : ∀ e ∈ es, atB l e.1 = true → atB l e.2.1 = true) : ReachL n es s l :=
  ⟨h.1, fun v hv => ⟨h.2 v hv, fun ⟨p, hp, hc⟩ => walk_ind (P := fun _ v => atB l v = true) h0 (fun _ e _ he _ ih => hr e he ih) p.length p v rfl hp hc⟩⟩
/-- The two ends of each edge have one number, each number is its own. -/
theorem weak_fix {n : Nat} {es : List Ed} {l : List Int} (h : WI n es l) (hle : ∀ v : Int, 0 ≤ v ∧ v < (n : Int) → atD l v ≤ v) (hr : ∀ e ∈ es, atD l e.1 = atD l e.2.1) : WeakL n es l :=
  ⟨h.1, fun v hv => ⟨(h.2 v hv).1, (h.2 v hv).2, fun u hu ⟨p, hp, hc⟩ => by
    have hb : ∀ e ∈ bothW es, atD l e.1 = atD l e.2.1 := fun e he => by
      rcases List.mem_append.1 he with g | g
      · exact hr e g
      · obtain ⟨d, hd, rfl⟩ := List.mem_map.1 g
        exact (hr d hd).symm
    have : atD l v = atD l u := walk_ind (P := fun _ v => atD l v = atD l u) rfl (fun _ e _ he _ ih => by rw [← hb e he, ih]) p.length p v rfl hp hc
    have := hle u hu
    omega⟩⟩
/-- Numbers by vertices taken from below: each vertex that has none yet gives its own to all that are tied to it. -/
def LsI (n : Nat) (T : Int → Int → Prop) (k : Nat) (l : List Int) : Prop := l.length = n ∧ ∀ v : Int, 0 ≤ v ∧ v < (n : Int) →
  (atD l v = -1 ∧ ∀ u : Int, 0 ≤ u ∧ u < (k : Int) → ¬ T u v) ∨ ((0 ≤ atD l v ∧ atD l v < (k : Int)) ∧ T (atD l v) v ∧ ∀ u : Int, 0 ≤ u ∧ u < (n : Int) → T u v → atD l v ≤ u)
theorem ls_start (n : Nat) (T : Int → Int → Prop) : LsI n T 0 (List.replicate n (-1)) := ⟨by simp, fun v _ => .inl ⟨rep_at, fun u hu => by omega⟩⟩
theorem ls_end {n : Nat} {T : Int → Int → Prop} {l : List Int} (hr : ∀ v, T v v) (h : LsI n T n l) : LeastL n T l := ⟨h.1, fun v hv => (h.2 v hv).resolve_left fun ⟨_, g⟩ => g v hv (hr v)⟩
/-- A vertex that has one: those tied to it have theirs. -/
theorem ls_skip {n k : Nat} {T : Int → Int → Prop} {l : List Int} (ht : ∀ {a b c}, T a b → T b c → T a c) (hk : k < n) (h : LsI n T k l) (hn : atD l k ≠ -1) : LsI n T (k + 1) l := by
  refine ⟨h.1, fun v hv => ?_⟩
  rcases h.2 v hv with ⟨g1, g2⟩ | ⟨g1, g2⟩
  · refine .inl ⟨g1, fun u hu hT => ?_⟩
    by_cases e : u < (k : Int)
    · exact g2 u ⟨hu.1, e⟩ hT
    · have e' : u = (k : Int) := by omega
      subst e'
      rcases h.2 (k : Int) ⟨by omega, by omega⟩ with ⟨f1, _⟩ | ⟨f1, f2, f3⟩
      · exact hn f1
      · exact g2 _ f1 (ht f2 hT)
  · exact .inr ⟨by omega, g2⟩
/-- A vertex that has none gives its own number to all that are tied to it, and to none besides. -/
theorem ls_give {n k : Nat} {T : Int → Int → Prop} {l l' : List Int} (hs : ∀ {a b}, T a b → T b a) (ht : ∀ {a b c}, T a b → T b c → T a c) (hk : k < n) (h : LsI n T k l) (hn : atD l k = -1) (hl : l'.length = n)
    (ha : ∀ v : Int, 0 ≤ v ∧ v < (n : Int) → (T k v ∧ atD l' v = k) ∨ (¬ T k v ∧ atD l' v = atD l v)) : LsI n T (k + 1) l' := by
  have hno : ∀ u : Int, 0 ≤ u ∧ u < (k : Int) → ¬ T u k := by
    rcases h.2 (k : Int) ⟨by omega, by omega⟩ with ⟨_, g⟩ | ⟨g, _⟩
    · exact g
    · omega
  refine ⟨hl, fun v hv => ?_⟩
  rcases ha v hv with ⟨a1, a2⟩ | ⟨a1, a2⟩
  · rw [a2]
    refine .inr ⟨by omega, a1, fun u hu hT => ?_⟩
    by_cases e : u < (k : Int)
    · exact absurd (ht hT (hs a1)) (hno u ⟨hu.1, e⟩)
    · omega
  · rw [a2]
    rcases h.2 v hv with ⟨g1, g2⟩ | ⟨g1, g2⟩
    · refine .inl ⟨g1, fun u hu hT => ?_⟩
      by_cases e : u < (k : Int)
      · exact g2 u ⟨hu.1, e⟩ hT
      · have e' : u = (k : Int) := by omega
        subst e'
        exact a1 hT
    · exact .inr ⟨by omega, g2⟩
end Go.Proofs.Ytankibadiomkkab
