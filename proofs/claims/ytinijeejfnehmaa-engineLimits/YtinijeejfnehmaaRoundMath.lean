/-
  P13 as functions: states, and what a round makes of them.
-/
import Derived.Test.YtinijeejfnehmaaProgMath
import Derived.Test.YtinijeejfnehmaaPathLists
namespace Go.Proofs.Ytinijeejfnehmaa
set_option maxRecDepth 100000

/-- A state between two rounds. -/
structure StS where
  step : Int
  phase : Int
  fresh : Bool
  done : Bool
  vals : List Ml
  mail : List (List Int)
def st0 : StS := ⟨0, 0, false, false, [], []⟩
/-- What stands at a vertex. -/
def vlA (l : List Ml) (v : Int) : Ml := l.getD v.toNat (-1, -1)
def mlA (l : List (List Int)) (v : Int) : List Int := l.getD v.toNat []
/-- What a vertex does in a round: its value, and whether it says so. -/
def rndV (j : Jb) (s : Int) (t : StS) (v : Int) : Ml × Bool := if t.fresh || !(mlA t.mail v).isEmpty then wakeV j v s (vlA t.vals v) t.fresh (mlA t.mail v) else (vlA t.vals v, false)
def valsR (n : Nat) (r : Int → Ml × Bool) : List Ml := (List.range n).map fun v : Nat => (r (v : Int)).1
/-- What comes along an edge to u. -/
def msgE (j : Jb) (r : Int → Ml × Bool) (u : Int) (e : Ed) : List Int :=
  (if ((wayJ j).1 && (e.2.1 == u)) && (r e.1).2 then [sayJ j (r e.1).1.1 e.2.2] else []) ++ (if ((wayJ j).2 && (e.1 == u)) && (r e.2.1).2 then [sayJ j (r e.2.1).1.1 e.2.2] else [])
def msgs (j : Jb) (r : Int → Ml × Bool) (es : List Ed) (u : Int) : List Int := es.flatMap (msgE j r u)
def sortN (l : List Int) : List Int := l.mergeSort fun a b => decide (a ≤ b)
def mailR (n : Nat) (j : Jb) (r : Int → Ml × Bool) (es : List Ed) : List (List Int) := (List.range n).map fun u : Nat => sortN (msgs j r es (u : Int))
/-- Something that is said is too great. -/
def overR (j : Jb) (r : Int → Ml × Bool) (es : List Ed) : Bool := es.any fun e => (wayJ j).1 && (r e.1).2 && decide (Jb.top j < sayJ j (r e.1).1.1 e.2.2)
def manyL (m : List (List Int)) : Nat := (m.map List.length).sum
def openV (l : List Ml) : Bool := l.any fun x => decide (x.2 < 0)
/-- P13.5. -/
def behR (j : Jb) (step phase : Int) (vs : List Ml) (ms : List (List Int)) : StS :=
  if 0 < manyL ms then ⟨step + 1, phase, false, false, vs, ms⟩ else if !j.1 || (j.2 && !openV vs) then ⟨step + 1, phase, false, true, vs, ms⟩ else ⟨step + 1, 1 - phase, true, false, vs, ms⟩
def nextS (n : Nat) (es : List Ed) (j : Jb) (s : Int) (t : StS) : StS := behR j t.step t.phase (valsR n (rndV j s t)) (mailR n j (rndV j s t) es)
/-- Mail that rises, within its bounds. -/
def risB (l : List Int) : Bool := decide (l.Pairwise fun a b => a ≤ b)
/-- P13.3. -/
def mayR (n : Nat) (k : Int) (t : StS) : Bool :=
  match jobF k t.phase with
  | none => false
  | some j => inB t.step 0 100000 && decide (t.vals.length = n) && decide (t.mail.length = n) && (t.vals.all fun x => valB j x) && (t.mail.all fun l => mailB j l && risB l) && !(t.fresh && t.done) && !(decide (0 < manyL t.mail) && (t.fresh || t.done)) && decide (manyL t.mail ≤ 5000)
/-- P13.4, of a job that is right. -/
def nextE (n : Nat) (es : List Ed) (k s : Int) (t : StS) : Int × StS :=
  if mayR n k t then (if t.done then (0, t) else if 100000 ≤ t.step then (10, st0) else
    match jobF k t.phase with
    | none => (9, st0)
    | some j => if overR j (rndV j s t) es then (6, st0) else (0, nextS n es j s t)) else (9, st0)
/-- P13.2. -/
def beginS (n : Nat) : StS := ⟨0, 0, decide (0 < n), decide (n = 0), List.replicate n (-1, -1), List.replicate n []⟩
/-- P13.6: so many rounds at most. -/
def runE (n : Nat) (es : List Ed) (k s : Int) : Nat → Int × StS → Int × StS
  | 0, r => r
  | f + 1, r => if r.1 = 0 ∧ r.2.done = false then runE n es k s f (nextE n es k s r.2) else r
/-- P13.1. -/
def jobE (n : Int) (es : List Ed) (k s : Int) : Int := if faultE n es ≠ 0 then faultE n es else if ¬ (1 ≤ k ∧ k ≤ 3) then 3 else if k = 1 ∧ ¬ (0 ≤ s ∧ s < n) then 2 else 0

theorem vlA_vals {n : Nat} {r : Int → Ml × Bool} {v : Int} (hv : 0 ≤ v ∧ v < (n : Int)) : vlA (valsR n r) v = (r v).1 := by
  unfold vlA valsR
  rw [List.getD_eq_getElem?_getD, List.getElem?_map, List.getElem?_range (by omega)]
  simp
  rw [Int.max_eq_left hv.1]
theorem valsR_len (n : Nat) (r : Int → Ml × Bool) : (valsR n r).length = n := by simp [valsR]
theorem mailR_len (n : Nat) (j : Jb) (r : Int → Ml × Bool) (es : List Ed) : (mailR n j r es).length = n := by simp [mailR]
theorem mlA_mail {n : Nat} {j : Jb} {r : Int → Ml × Bool} {es : List Ed} {v : Int} (hv : 0 ≤ v ∧ v < (n : Int)) : mlA (mailR n j r es) v = sortN (msgs j r es v) := by
  unfold mlA mailR
  rw [List.getD_eq_getElem?_getD, List.getElem?_map, List.getElem?_range (by omega)]
  simp
  rw [Int.max_eq_left hv.1]
theorem sortN_perm (l : List Int) : (sortN l).Perm l := List.mergeSort_perm _ _
theorem sortN_mem {l : List Int} {x : Int} : x ∈ sortN l ↔ x ∈ l := (sortN_perm l).mem_iff
theorem sortN_len (l : List Int) : (sortN l).length = l.length := (sortN_perm l).length_eq
theorem sortN_ris (l : List Int) : (sortN l).Pairwise fun a b => a ≤ b := by
  have := List.pairwise_mergeSort (le := fun a b : Int => decide (a ≤ b)) (fun a b c h1 h2 => by simp at *; omega) (fun a b => by simp; omega) l
  exact this.imp (by simp)
theorem ris_uniq {l l' : List Int} (hp : l.Perm l') (h : l.Pairwise fun a b => a ≤ b) (h' : l'.Pairwise fun a b => a ≤ b) : l = l' :=
  hp.eq_of_pairwise (fun _ _ _ _ h1 h2 => Int.le_antisymm h1 h2) h h'
theorem sortN_uniq {l l' : List Int} (hp : l'.Perm l) (h : l'.Pairwise fun a b => a ≤ b) : l' = sortN l := ris_uniq (hp.trans (sortN_perm l).symm) h (sortN_ris l)
theorem manyL_zero {m : List (List Int)} : manyL m = 0 ↔ ∀ l ∈ m, l = [] := by
  unfold manyL
  induction m with
  | nil => simp
  | cons l m ih =>
    rw [List.map_cons, List.sum_cons]
    constructor
    · intro h x hx
      rcases List.mem_cons.1 hx with rfl | hx
      · exact List.eq_nil_of_length_eq_zero (by omega)
      · exact ih.1 (by omega) x hx
    · intro h
      have h1 := h l (by simp)
      have h2 := ih.2 fun x hx => h x (by simp [hx])
      rw [h1]
      simp
      exact h2
theorem mailR_zero {n : Nat} {j : Jb} {r : Int → Ml × Bool} {es : List Ed} : manyL (mailR n j r es) = 0 ↔ ∀ u : Int, 0 ≤ u ∧ u < (n : Int) → msgs j r es u = [] := by
  rw [manyL_zero]
  constructor
  · intro h u hu
    have h1 := h (sortN (msgs j r es u)) (List.mem_map.2 ⟨u.toNat, List.mem_range.2 (by omega), by rw [Int.toNat_of_nonneg hu.1]⟩)
    have h2 := sortN_len (msgs j r es u)
    rw [h1] at h2
    exact List.eq_nil_of_length_eq_zero h2.symm
  · intro h l hl
    obtain ⟨u, hu, rfl⟩ := List.mem_map.1 hl
    have hu' := List.mem_range.1 hu
    rw [h (u : Int) ⟨by omega, by omega⟩]
    exact List.eq_nil_of_length_eq_zero (by rw [sortN_len]; rfl)
/-- Nobody says anything: no mail. -/
theorem msgs_none {j : Jb} {r : Int → Ml × Bool} {es : List Ed} {u : Int} (h : ∀ e ∈ es, (r e.1).2 = false ∧ (r e.2.1).2 = false) : msgs j r es u = [] := by
  unfold msgs
  rw [List.flatMap_eq_nil_iff]
  intro e he
  obtain ⟨h1, h2⟩ := h e he
  unfold msgE
  rw [h1, h2]
  simp
theorem msgs_mem {j : Jb} {r : Int → Ml × Bool} {es : List Ed} {u x : Int} : x ∈ msgs j r es u ↔ (∃ e ∈ es, (wayJ j).1 = true ∧ e.2.1 = u ∧ (r e.1).2 = true ∧ x = sayJ j (r e.1).1.1 e.2.2) ∨ ∃ e ∈ es, (wayJ j).2 = true ∧ e.1 = u ∧ (r e.2.1).2 = true ∧ x = sayJ j (r e.2.1).1.1 e.2.2 := by
  unfold msgs
  rw [List.mem_flatMap]
  constructor
  · rintro ⟨e, he, hx⟩
    unfold msgE at hx
    rcases List.mem_append.1 hx with hx | hx
    · split at hx
      · next h => simp at h hx; exact .inl ⟨e, he, h.1.1, h.1.2, h.2, hx⟩
      · simp at hx
    · split at hx
      · next h => simp at h hx; exact .inr ⟨e, he, h.1.1, h.1.2, h.2, hx⟩
      · simp at hx
  · rintro (⟨e, he, h1, h2, h3, h4⟩ | ⟨e, he, h1, h2, h3, h4⟩)
    · refine ⟨e, he, ?_⟩
      unfold msgE
      rw [List.mem_append]
      left
      simp [h1, h2, h3, h4]
    · refine ⟨e, he, ?_⟩
      unfold msgE
      rw [List.mem_append]
      right
      simp [h1, h2, h3, h4]
/-- So many rounds, none refused, none behind the end. -/
def GoesR (n : Nat) (es : List Ed) (k s : Int) : Nat → StS → StS → Prop
  | 0, t, t' => t = t'
  | i + 1, t, t' => t.done = false ∧ ∃ j, jobF k t.phase = some j ∧ overR j (rndV j s t) es = false ∧ GoesR n es k s i (nextS n es j s t) t'
theorem GoesR.trans {n : Nat} {es : List Ed} {k s : Int} : ∀ {i i' : Nat} {t t' t'' : StS}, GoesR n es k s i t t' → GoesR n es k s i' t' t'' → GoesR n es k s (i + i') t t''
  | 0, i', t, t', t'', h, h2 => by
    have h' : t = t' := h
    rw [Nat.zero_add, h']; exact h2
  | i + 1, i', t, t', t'', h, h2 => by
    obtain ⟨h1, j, hj, ho, hg⟩ := h
    rw [show i + 1 + i' = (i + i') + 1 by omega]
    exact ⟨h1, j, hj, ho, GoesR.trans hg h2⟩
theorem GoesR.one {n : Nat} {es : List Ed} {k s : Int} {j : Jb} {t : StS} (hd : t.done = false) (hj : jobF k t.phase = some j) (ho : overR j (rndV j s t) es = false) : GoesR n es k s 1 t (nextS n es j s t) := ⟨hd, j, hj, ho, rfl⟩
end Go.Proofs.Ytinijeejfnehmaa
