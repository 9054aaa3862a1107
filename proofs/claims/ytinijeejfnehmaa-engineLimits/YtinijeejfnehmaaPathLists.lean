/-
  P12 in plain mathematics: lists of distances, of least vertices, of what is reached; what the document's rounds come to; that there is one such list alone.
-/
import Derived.Test.YtinijeejfnehmaaPathMath
namespace Go.Proofs.Ytinijeejfnehmaa
set_option maxRecDepth 100000

/-- What stands at a vertex. -/
def atD (l : List Int) (v : Int) : Int := l.getD v.toNat (-1)
def atB (l : List Bool) (v : Int) : Bool := l.getD v.toNat false
theorem toNat_lt {n : Nat} {v : Int} (h : 0 ≤ v ∧ v < (n : Int)) : v.toNat < n := by omega
theorem atD_set {l : List Int} {n : Nat} {i v x : Int} (hl : l.length = n) (hi : 0 ≤ i ∧ i < (n : Int)) (hv : 0 ≤ v ∧ v < (n : Int)) : atD (l.set i.toNat x) v = if v = i then x else atD l v := by
  unfold atD
  rw [List.getD_eq_getElem?_getD, List.getD_eq_getElem?_getD]
  by_cases e : v = i
  · subst e
    rw [if_pos rfl, List.getElem?_set_self (by omega)]
    rfl
  · rw [if_neg e, List.getElem?_set_ne (by omega)]
theorem atB_set {l : List Bool} {n : Nat} {i v : Int} {x : Bool} (hl : l.length = n) (hi : 0 ≤ i ∧ i < (n : Int)) (hv : 0 ≤ v ∧ v < (n : Int)) : atB (l.set i.toNat x) v = if v = i then x else atB l v := by
  unfold atB
  rw [List.getD_eq_getElem?_getD, List.getD_eq_getElem?_getD]
  by_cases e : v = i
  · subst e
    rw [if_pos rfl, List.getElem?_set_self (by omega)]
    rfl
  · rw [if_neg e, List.getElem?_set_ne (by omega)]
theorem atD_ext {l l' : List Int} {n : Nat} (h : l.length = n) (h' : l'.length = n) (he : ∀ v : Int, 0 ≤ v ∧ v < (n : Int) → atD l v = atD l' v) : l = l' := by
  refine List.ext_getElem (by omega) fun i h1 h2 => ?_
  have := he (i : Int) ⟨by omega, by omega⟩
  unfold atD at this
  rw [Int.toNat_natCast, List.getD_eq_getElem?_getD, List.getD_eq_getElem?_getD, List.getElem?_eq_getElem h1, List.getElem?_eq_getElem h2] at this
  exact this
theorem atB_ext {l l' : List Bool} {n : Nat} (h : l.length = n) (h' : l'.length = n) (he : ∀ v : Int, 0 ≤ v ∧ v < (n : Int) → atB l v = atB l' v) : l = l' := by
  refine List.ext_getElem (by omega) fun i h1 h2 => ?_
  have := he (i : Int) ⟨by omega, by omega⟩
  unfold atB at this
  rw [Int.toNat_natCast, List.getD_eq_getElem?_getD, List.getD_eq_getElem?_getD, List.getElem?_eq_getElem h1, List.getElem?_eq_getElem h2] at this
  exact this
theorem atD_at {l : List Int} {v : Nat} {x : Int} (h : l[v]? = some x) : atD l (v : Int) = x := by
  unfold atD
  rw [Int.toNat_natCast, List.getD_eq_getElem?_getD, h]
  rfl
theorem atB_at {l : List Bool} {v : Nat} {x : Bool} (h : l[v]? = some x) : atB l (v : Int) = x := by
  unfold atB
  rw [Int.toNat_natCast, List.getD_eq_getElem?_getD, h]
  rfl

/-- d is the least weight of a walk from s to v. -/
def Dst (es : List Ed) (s v d : Int) : Prop := (∃ p, (∀ e ∈ p, e ∈ es) ∧ Chn s p v ∧ sumW p = d) ∧ ∀ p, (∀ e ∈ p, e ∈ es) → Chn s p v → d ≤ sumW p
def DistV (es : List Ed) (s v x : Int) : Prop := (x = -1 ∧ ¬ Rch es s v) ∨ (0 ≤ x ∧ Dst es s v x)
/-- P12.1. -/
def DistL (n : Nat) (es : List Ed) (s : Int) (l : List Int) : Prop := l.length = n ∧ ∀ v : Int, 0 ≤ v ∧ v < (n : Int) → DistV es s v (atD l v)
theorem Dst.rch {es : List Ed} {s v d : Int} (h : Dst es s v d) : Rch es s v := by
  obtain ⟨⟨p, hp, hc, _⟩, _⟩ := h
  exact ⟨p, hp, hc⟩
theorem Dst.uniq {es : List Ed} {s v d d' : Int} (h : Dst es s v d) (h' : Dst es s v d') : d = d' := by
  obtain ⟨⟨p, hp, hc, hs⟩, hm⟩ := h
  obtain ⟨⟨q, hq, hd, ht⟩, hk⟩ := h'
  have h1 := hm q hq hd
  have h2 := hk p hp hc
  omega
theorem DistV.uniq {es : List Ed} {s v x y : Int} (h : DistV es s v x) (h' : DistV es s v y) : x = y := by
  rcases h with ⟨h1, h2⟩ | ⟨h1, h2⟩
  · rcases h' with ⟨g1, _⟩ | ⟨_, g2⟩
    · omega
    · exact absurd g2.rch h2
  · rcases h' with ⟨_, g2⟩ | ⟨_, g2⟩
    · exact absurd h2.rch g2
    · exact h2.uniq g2
theorem DistL.uniq {n : Nat} {es : List Ed} {s : Int} {l l' : List Int} (h : DistL n es s l) (h' : DistL n es s l') : l = l' := atD_ext h.1 h'.1 fun v hv => (h.2 v hv).uniq (h'.2 v hv)

/-- One edge of the document's rounds. -/
def rlx (l : List Int) (e : Ed) : List Int := if 0 ≤ atD l e.1 ∧ (atD l e.2.1 < 0 ∨ atD l e.1 + e.2.2 < atD l e.2.1) then l.set e.2.1.toNat (atD l e.1 + e.2.2) else l
def dist0 (n : Nat) (s : Int) : List Int := (List.replicate n (-1)).set s.toNat 0
def distF (n : Nat) (es : List Ed) (s : Int) : List Int := rnds rlx es n (dist0 n s)
theorem rlx_len (l : List Int) (e : Ed) : (rlx l e).length = l.length := by unfold rlx; split <;> simp
theorem dist0_len (n : Nat) (s : Int) : (dist0 n s).length = n := by simp [dist0]
theorem rep_at {n : Nat} {v : Int} : atD (List.replicate n (-1)) v = -1 := by
  unfold atD
  rw [List.getD_eq_getElem?_getD, List.getElem?_replicate]
  split <;> rfl
/-- What holds all along: each number is the weight of a walk. -/
def DI (n : Nat) (es : List Ed) (s : Int) (l : List Int) : Prop := l.length = n ∧ ∀ v : Int, 0 ≤ v ∧ v < (n : Int) → atD l v = -1 ∨ (0 ≤ atD l v ∧ ∃ p, (∀ e ∈ p, e ∈ es) ∧ Chn s p v ∧ sumW p = atD l v)
theorem di_start {n : Nat} {es : List Ed} {s : Int} (hs : 0 ≤ s ∧ s < (n : Int)) : DI n es s (dist0 n s) := by
  refine ⟨dist0_len n s, fun v hv => ?_⟩
  unfold dist0
  rw [atD_set (by simp) hs hv]
  by_cases e : v = s
  · rw [if_pos e]
    exact .inr ⟨Int.le_refl _, [], by simp, e.symm, rfl⟩
  · rw [if_neg e, rep_at]
    exact .inl rfl
theorem di_step {n : Nat} {es : List Ed} {s : Int} (hg : InG n es) (l : List Int) (e : Ed) (he : e ∈ es) (h : DI n es s l) : DI n es s (rlx l e) := by
  obtain ⟨f0, f1, t0, t1, w0⟩ := hg e he
  refine ⟨by rw [rlx_len, h.1], fun v hv => ?_⟩
  unfold rlx
  split
  · next hc =>
    rw [atD_set h.1 ⟨t0, t1⟩ hv]
    by_cases ev : v = e.2.1
    · rw [if_pos ev]
      refine .inr ⟨by omega, ?_⟩
      rcases h.2 e.1 ⟨f0, f1⟩ with h1 | ⟨_, p, hp, hcn, hsum⟩
      · omega
      · refine ⟨p ++ [e], fun d hd => ?_, chn_app hcn ⟨rfl, ev.symm⟩, ?_⟩
        · rcases List.mem_append.1 hd with hd | hd
          · exact hp d hd
          · simp at hd; rw [hd]; exact he
        · rw [sumW_app, hsum, sumW_cons, sumW_nil]; omega
    · rw [if_neg ev]
      exact h.2 v hv
  · exact h.2 v hv
/-- A number at a vertex, at most c. -/
def DP (n : Nat) (v c : Int) (l : List Int) : Prop := (0 ≤ v ∧ v < (n : Int)) ∧ 0 ≤ atD l v ∧ atD l v ≤ c
theorem dp_keep {n : Nat} {es : List Ed} {s : Int} (hg : InG n es) (l : List Int) (e : Ed) (v c : Int) (he : e ∈ es) (h : DI n es s l) (hp : DP n v c l) : DP n v c (rlx l e) := by
  obtain ⟨f0, f1, t0, t1, w0⟩ := hg e he
  obtain ⟨hv, h0, h1⟩ := hp
  refine ⟨hv, ?_⟩
  unfold rlx
  split
  · next hc =>
    rw [atD_set h.1 ⟨t0, t1⟩ hv]
    by_cases ev : v = e.2.1
    · rw [if_pos ev]
      subst ev
      omega
    · rw [if_neg ev]
      exact ⟨h0, h1⟩
  · exact ⟨h0, h1⟩
theorem dp_edge {n : Nat} {es : List Ed} {s : Int} (hg : InG n es) (e : Ed) (he : e ∈ es) (l : List Int) (c : Int) (h : DI n es s l) (hp : DP n e.1 c l) : DP n e.2.1 (c + e.2.2) (rlx l e) := by
  obtain ⟨f0, f1, t0, t1, w0⟩ := hg e he
  obtain ⟨hv, h0, h1⟩ := hp
  refine ⟨⟨t0, t1⟩, ?_⟩
  unfold rlx
  split
  · next hc =>
    rw [atD_set h.1 ⟨t0, t1⟩ ⟨t0, t1⟩, if_pos rfl]
    omega
  · next hc =>
    have : ¬ (atD l e.2.1 < 0 ∨ atD l e.1 + e.2.2 < atD l e.2.1) := fun hh => hc ⟨h0, hh⟩
    omega
theorem fold_sum (p : List Ed) (c : Int) : p.foldl (fun c e => c + e.2.2) c = c + sumW p := by
  induction p generalizing c with
  | nil => simp [sumW]
  | cons e p ih => rw [List.foldl_cons, ih, sumW_cons]; omega
/-- The document's rounds tell the distances. -/
theorem dist_ok {n : Nat} {es : List Ed} {s : Int} (hg : InG n es) (hs : 0 ≤ s ∧ s < (n : Int)) : DistL n es s (distF n es s) := by
  have hI : DI n es s (distF n es s) := rnds_keep (di_step hg) n (di_start hs)
  have hP : ∀ (p : List Ed) (v : Int), p.length ≤ n → (∀ e ∈ p, e ∈ es) → Chn s p v → DP n v (p.foldl (fun c e => c + e.2.2) 0) (distF n es s) :=
    rnds_get (f := rlx) (es := es) (ds := es) (I := DI n es s) (P := DP n) (add := fun c e => c + e.2.2) (di_step hg) (dp_keep hg) (fun d hd => ⟨d, hd, dp_edge hg d hd⟩) (di_start hs)
      (show DP n s 0 (dist0 n s) from ⟨hs, by unfold dist0; rw [atD_set (by simp) hs hs, if_pos rfl]; exact ⟨Int.le_refl _, Int.le_refl _⟩⟩) n
  have hA : ∀ (p : List Ed) (v : Int), (∀ e ∈ p, e ∈ es) → Chn s p v → 0 ≤ atD (distF n es s) v ∧ atD (distF n es s) v ≤ sumW p := fun p v hp hc => by
    obtain ⟨q, hq, hd, hl, hw⟩ := chn_short hg p.length (Nat.le_refl _) hp hs hc
    obtain ⟨_, h0, h1⟩ := hP q v (by omega) hq hd
    rw [fold_sum] at h1
    exact ⟨h0, by omega⟩
  refine ⟨hI.1, fun v hv => ?_⟩
  rcases hI.2 v hv with h | ⟨h0, p, hp, hc, hw⟩
  · refine .inl ⟨h, fun ⟨p, hp, hc⟩ => ?_⟩
    have := hA p v hp hc
    omega
  · exact .inr ⟨h0, ⟨p, hp, hc, hw⟩, fun q hq hd => (hA q v hq hd).2⟩
theorem dist_uniq {n : Nat} {es : List Ed} {s : Int} {l : List Int} (hg : InG n es) (hs : 0 ≤ s ∧ s < (n : Int)) (h : DistL n es s l) : l = distF n es s := h.uniq (dist_ok hg hs)
/-- Numbers of the rounds stay small: behind k edges at most k times the greatest weight. -/
theorem rlx_bd {n : Nat} {B M : Int} {l : List Int} {e : Ed} (hl : l.length = n) (h : ∀ v : Int, 0 ≤ v ∧ v < (n : Int) → -1 ≤ atD l v ∧ atD l v ≤ B) (he : 0 ≤ e.1 ∧ e.1 < (n : Int) ∧ 0 ≤ e.2.1 ∧ e.2.1 < (n : Int) ∧ 0 ≤ e.2.2 ∧ e.2.2 ≤ M) :
    ∀ v : Int, 0 ≤ v ∧ v < (n : Int) → -1 ≤ atD (rlx l e) v ∧ atD (rlx l e) v ≤ B + M := fun v hv => by
  have h1 := h v hv
  have h2 := h e.1 ⟨he.1, he.2.1⟩
  unfold rlx
  split
  · next hc =>
    rw [atD_set hl ⟨he.2.2.1, he.2.2.2.1⟩ hv]
    split <;> omega
  · omega

/-- P12.3. -/
def ReachL (n : Nat) (es : List Ed) (s : Int) (l : List Bool) : Prop := l.length = n ∧ ∀ v : Int, 0 ≤ v ∧ v < (n : Int) → (atB l v = true ↔ Rch es s v)
theorem ReachL.uniq {n : Nat} {es : List Ed} {s : Int} {l l' : List Bool} (h : ReachL n es s l) (h' : ReachL n es s l') : l = l' := atB_ext h.1 h'.1 fun v hv => by
  have h1 := h.2 v hv
  have h2 := h'.2 v hv
  cases e1 : atB l v <;> cases e2 : atB l' v <;> simp_all
def rcS (l : List Bool) (e : Ed) : List Bool := if atB l e.1 then l.set e.2.1.toNat true else l
def reach0 (n : Nat) (s : Int) : List Bool := (List.replicate n false).set s.toNat true
def reachF (n : Nat) (es : List Ed) (s : Int) : List Bool := rnds rcS es n (reach0 n s)
theorem rcS_len (l : List Bool) (e : Ed) : (rcS l e).length = l.length := by unfold rcS; split <;> simp
theorem reach0_len (n : Nat) (s : Int) : (reach0 n s).length = n := by simp [reach0]
theorem repB_at {n : Nat} {v : Int} : atB (List.replicate n false) v = false := by
  unfold atB
  rw [List.getD_eq_getElem?_getD, List.getElem?_replicate]
  split <;> rfl
def RI (n : Nat) (es : List Ed) (s : Int) (l : List Bool) : Prop := l.length = n ∧ ∀ v : Int, 0 ≤ v ∧ v < (n : Int) → atB l v = true → Rch es s v
theorem ri_step {n : Nat} {es : List Ed} {s : Int} (hg : InG n es) (l : List Bool) (e : Ed) (he : e ∈ es) (h : RI n es s l) : RI n es s (rcS l e) := by
  obtain ⟨f0, f1, t0, t1, w0⟩ := hg e he
  refine ⟨by rw [rcS_len, h.1], fun v hv => ?_⟩
  unfold rcS
  split
  · next hc =>
    rw [atB_set h.1 ⟨t0, t1⟩ hv]
    by_cases ev : v = e.2.1
    · rw [if_pos ev]
      intro _
      rw [ev]
      exact (h.2 e.1 ⟨f0, f1⟩ hc).step he
    · rw [if_neg ev]
      exact h.2 v hv
  · exact h.2 v hv
def RP (n : Nat) (v : Int) (_ : Unit) (l : List Bool) : Prop := (0 ≤ v ∧ v < (n : Int)) ∧ atB l v = true
theorem reach_ok {n : Nat} {es : List Ed} {s : Int} (hg : InG n es) (hs : 0 ≤ s ∧ s < (n : Int)) : ReachL n es s (reachF n es s) := by
  have h0 : RI n es s (reach0 n s) := ⟨reach0_len n s, fun v hv => by
    unfold reach0
    rw [atB_set (by simp) hs hv]
    by_cases e : v = s
    · intro _; rw [e]; exact Rch.refl _ _
    · rw [if_neg e, repB_at]; intro h; cases h⟩
  have hI : RI n es s (reachF n es s) := rnds_keep (ri_step hg) n h0
  have hP : ∀ (p : List Ed) (v : Int), p.length ≤ n → (∀ e ∈ p, e ∈ es) → Chn s p v → RP n v (p.foldl (fun c _ => c) ()) (reachF n es s) :=
    rnds_get (f := rcS) (es := es) (ds := es) (I := RI n es s) (P := RP n) (add := fun c _ => c) (ri_step hg)
      (fun l e v c he hi hp => by
        obtain ⟨f0, f1, t0, t1, w0⟩ := hg e he
        obtain ⟨hv, hb⟩ := hp
        refine ⟨hv, ?_⟩
        unfold rcS
        split
        · rw [atB_set hi.1 ⟨t0, t1⟩ hv]
          split
          · rfl
          · exact hb
        · exact hb)
      (fun d hd => ⟨d, hd, fun l c hi hp => by
        obtain ⟨f0, f1, t0, t1, w0⟩ := hg d hd
        refine ⟨⟨t0, t1⟩, ?_⟩
        unfold rcS
        rw [if_pos hp.2, atB_set hi.1 ⟨t0, t1⟩ ⟨t0, t1⟩, if_pos rfl]⟩) h0
      (show RP n s () (reach0 n s) from ⟨hs, by unfold reach0; rw [atB_set (by simp) hs hs, if_pos rfl]⟩) n
  refine ⟨hI.1, fun v hv => ⟨hI.2 v hv, fun ⟨p, hp, hc⟩ => ?_⟩⟩
  obtain ⟨q, hq, hd, hl, _⟩ := chn_short hg p.length (Nat.le_refl _) hp hs hc
  exact (hP q v (by omega) hq hd).2
theorem reach_uniq {n : Nat} {es : List Ed} {s : Int} {l : List Bool} (hg : InG n es) (hs : 0 ≤ s ∧ s < (n : Int)) (h : ReachL n es s l) : l = reachF n es s := h.uniq (reach_ok hg hs)

/-- Edges, whichever way they go. -/
def bothW (es : List Ed) : List Ed := es ++ es.map fun e => (e.2.1, e.1, e.2.2)
theorem both_in {n : Int} {es : List Ed} (hg : InG n es) : InG n (bothW es) := fun e he => by
  rcases List.mem_append.1 he with h | h
  · exact hg e h
  · obtain ⟨d, hd, rfl⟩ := List.mem_map.1 h
    obtain ⟨f0, f1, t0, t1, w0⟩ := hg d hd
    exact ⟨t0, t1, f0, f1, w0⟩
theorem both_turn {es : List Ed} {e : Ed} (h : e ∈ bothW es) : (e.2.1, e.1, e.2.2) ∈ bothW es := by
  rcases List.mem_append.1 h with h | h
  · exact List.mem_append.2 (.inr (List.mem_map.2 ⟨e, h, rfl⟩))
  · obtain ⟨d, hd, rfl⟩ := List.mem_map.1 h
    exact List.mem_append.2 (.inl hd)
theorem chn_back {es : List Ed} : ∀ {p : List Ed} {u v : Int}, (∀ e ∈ p, e ∈ bothW es) → Chn u p v → Rch (bothW es) v u
  | [], u, v, _, h => by have h' : u = v := h; rw [h']; exact Rch.refl _ _
  | e :: p, u, v, hp, h => by
    have h1 := chn_back (p := p) (fun d hd => hp d (by simp [hd])) h.2
    have h2 := h1.step (e := (e.2.1, e.1, e.2.2)) (both_turn (hp e (by simp)))
    rw [← h.1]
    exact h2
theorem both_symm {es : List Ed} {u v : Int} (h : Rch (bothW es) u v) : Rch (bothW es) v u := by
  obtain ⟨p, hp, hc⟩ := h
  exact chn_back hp hc
/-- Least among those that are tied to a vertex. -/
def LeastL (n : Nat) (T : Int → Int → Prop) (l : List Int) : Prop := l.length = n ∧ ∀ v : Int, 0 ≤ v ∧ v < (n : Int) → (0 ≤ atD l v ∧ atD l v < (n : Int)) ∧ T (atD l v) v ∧ ∀ u : Int, 0 ≤ u ∧ u < (n : Int) → T u v → atD l v ≤ u
theorem LeastL.uniq {n : Nat} {T : Int → Int → Prop} {l l' : List Int} (h : LeastL n T l) (h' : LeastL n T l') : l = l' := atD_ext h.1 h'.1 fun v hv => by
  obtain ⟨a1, a2, a3⟩ := h.2 v hv
  obtain ⟨b1, b2, b3⟩ := h'.2 v hv
  have h1 := a3 _ b1 b2
  have h2 := b3 _ a1 a2
  omega
/-- P12.2. -/
def WeakL (n : Nat) (es : List Ed) (l : List Int) : Prop := LeastL n (Rch (bothW es)) l
def wkS (l : List Int) (e : Ed) : List Int := if atD l e.1 < atD l e.2.1 then l.set e.2.1.toNat (atD l e.1) else l.set e.1.toNat (atD l e.2.1)
def weak0 (n : Nat) : List Int := (List.range n).map fun v : Nat => (v : Int)
def weakF (n : Nat) (es : List Ed) : List Int := rnds wkS es n (weak0 n)
theorem wkS_len (l : List Int) (e : Ed) : (wkS l e).length = l.length := by unfold wkS; split <;> simp
theorem weak0_len (n : Nat) : (weak0 n).length = n := by simp [weak0]
theorem weak0_at {n : Nat} {v : Int} (hv : 0 ≤ v ∧ v < (n : Int)) : atD (weak0 n) v = v := by
  unfold atD weak0
  rw [List.getD_eq_getElem?_getD, List.getElem?_map, List.getElem?_range (by omega)]
  simp
  omega
def WI (n : Nat) (es : List Ed) (l : List Int) : Prop := l.length = n ∧ ∀ v : Int, 0 ≤ v ∧ v < (n : Int) → (0 ≤ atD l v ∧ atD l v < (n : Int)) ∧ Rch (bothW es) (atD l v) v
/-- Both ends have the lesser number of the two. -/
theorem wkS_at {n : Nat} {l : List Int} {e : Ed} (hl : l.length = n) (he : 0 ≤ e.1 ∧ e.1 < (n : Int) ∧ 0 ≤ e.2.1 ∧ e.2.1 < (n : Int)) {v : Int} (hv : 0 ≤ v ∧ v < (n : Int)) :
    atD (wkS l e) v = if v = e.1 ∨ v = e.2.1 then min (atD l e.1) (atD l e.2.1) else atD l v := by
  obtain ⟨f0, f1, t0, t1⟩ := he
  unfold wkS
  split
  · next hc =>
    rw [atD_set hl ⟨t0, t1⟩ hv, Int.min_eq_left (by omega)]
    by_cases e1 : v = e.2.1
    · rw [if_pos e1, if_pos (.inr e1)]
    · rw [if_neg e1]
      by_cases e2 : v = e.1
      · rw [if_pos (.inl e2), e2]
      · rw [if_neg (by omega)]
  · next hc =>
    rw [atD_set hl ⟨f0, f1⟩ hv, Int.min_eq_right (by omega)]
    by_cases e1 : v = e.1
    · rw [if_pos e1, if_pos (.inl e1)]
    · rw [if_neg e1]
      by_cases e2 : v = e.2.1
      · rw [if_pos (.inr e2), e2]
      · rw [if_neg (by omega)]
theorem wi_step {n : Nat} {es : List Ed} (hg : InG n es) (l : List Int) (e : Ed) (he : e ∈ es) (h : WI n es l) : WI n es (wkS l e) := by
  obtain ⟨f0, f1, t0, t1, w0⟩ := hg e he
  have hbe : e ∈ bothW es := List.mem_append.2 (.inl he)
  refine ⟨by rw [wkS_len, h.1], fun v hv => ?_⟩
  rw [wkS_at h.1 ⟨f0, f1, t0, t1⟩ hv]
  obtain ⟨a1, a2⟩ := h.2 e.1 ⟨f0, f1⟩
  obtain ⟨b1, b2⟩ := h.2 e.2.1 ⟨t0, t1⟩
  by_cases hc : v = e.1 ∨ v = e.2.1
  · rw [if_pos hc]
    have a3 : Rch (bothW es) (atD l e.1) e.2.1 := a2.step hbe
    have b3 : Rch (bothW es) (atD l e.2.1) e.1 := b2.step (both_turn hbe)
    rcases Int.le_total (atD l e.1) (atD l e.2.1) with hh | hh
    · rw [Int.min_eq_left hh]
      exact ⟨a1, by rcases hc with rfl | rfl; exact a2; exact a3⟩
    · rw [Int.min_eq_right hh]
      exact ⟨b1, by rcases hc with rfl | rfl; exact b3; exact b2⟩
  · rw [if_neg hc]
    exact h.2 v hv
def WP (n : Nat) (v c : Int) (l : List Int) : Prop := (0 ≤ v ∧ v < (n : Int)) ∧ atD l v ≤ c
theorem fold_const {α β : Type} (p : List α) (c : β) : p.foldl (fun c _ => c) c = c := by
  induction p with
  | nil => rfl
  | cons e p ih => rw [List.foldl_cons, ih]
theorem weak_ok {n : Nat} {es : List Ed} (hg : InG n es) : WeakL n es (weakF n es) := by
  have h0 : WI n es (weak0 n) := ⟨weak0_len n, fun v hv => by rw [weak0_at hv]; exact ⟨hv, Rch.refl _ _⟩⟩
  have hI : WI n es (weakF n es) := rnds_keep (wi_step hg) n h0
  have hP : ∀ (u : Int), 0 ≤ u ∧ u < (n : Int) → ∀ (p : List Ed) (v : Int), p.length ≤ n → (∀ e ∈ p, e ∈ bothW es) → Chn u p v → WP n v (p.foldl (fun c _ => c) u) (weakF n es) := fun u hu =>
    rnds_get (f := wkS) (es := es) (ds := bothW es) (I := WI n es) (P := WP n) (add := fun c _ => c) (wi_step hg)
      (fun l e v c he hi hp => by
        obtain ⟨f0, f1, t0, t1, w0⟩ := hg e he
        obtain ⟨hv, hb⟩ := hp
        refine ⟨hv, ?_⟩
        rw [wkS_at hi.1 ⟨f0, f1, t0, t1⟩ hv]
        by_cases hc : v = e.1 ∨ v = e.2.1
        · rw [if_pos hc]
          rcases hc with rfl | rfl <;> omega
        · rw [if_neg hc]; exact hb)
      (fun d hd => by
        rcases List.mem_append.1 hd with h | h
        · refine ⟨d, h, fun l c hi hp => ?_⟩
          obtain ⟨f0, f1, t0, t1, w0⟩ := hg d h
          refine ⟨⟨t0, t1⟩, ?_⟩
          rw [wkS_at hi.1 ⟨f0, f1, t0, t1⟩ ⟨t0, t1⟩, if_pos (.inr rfl)]
          have := hp.2
          omega
        · obtain ⟨e, he, rfl⟩ := List.mem_map.1 h
          refine ⟨e, he, fun l c hi hp => ?_⟩
          obtain ⟨f0, f1, t0, t1, w0⟩ := hg e he
          refine ⟨⟨f0, f1⟩, ?_⟩
          rw [wkS_at hi.1 ⟨f0, f1, t0, t1⟩ ⟨f0, f1⟩, if_pos (.inl rfl)]
          have := hp.2
          simp only at this
          omega) h0
      (show WP n u u (weak0 n) from ⟨hu, by rw [weak0_at hu]; exact Int.le_refl _⟩) n
  refine ⟨hI.1, fun v hv => ⟨(hI.2 v hv).1, (hI.2 v hv).2, fun u hu ⟨p, hp, hc⟩ => ?_⟩⟩
  obtain ⟨q, hq, hd, hl, _⟩ := chn_short (both_in hg) p.length (Nat.le_refl _) hp hu hc
  have := (hP u hu q v (by omega) hq hd).2
  rwa [fold_const] at this
theorem weak_uniq {n : Nat} {es : List Ed} {l : List Int} (hg : InG n es) (h : WeakL n es l) : l = weakF n es := LeastL.uniq h (weak_ok hg)

/-- Each reaches the other. -/
def Mut (es : List Ed) (u v : Int) : Prop := Rch es u v ∧ Rch es v u
/-- P12.4. -/
def StrongL (n : Nat) (es : List Ed) (l : List Int) : Prop := LeastL n (Mut es) l
theorem Mut.symm {es : List Ed} {u v : Int} (h : Mut es u v) : Mut es v u := ⟨h.2, h.1⟩
theorem Mut.trans {es : List Ed} {u v x : Int} (h : Mut es u x) (h2 : Mut es x v) : Mut es u v := ⟨h.1.trans h2.1, h2.2.trans h.2⟩
end Go.Proofs.Ytinijeejfnehmaa
