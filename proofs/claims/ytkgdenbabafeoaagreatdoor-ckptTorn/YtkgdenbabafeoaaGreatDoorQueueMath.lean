/-
  P9.1 to P9.6 in plain mathematics: mail that may wait, runs, queues that may be, and what the three calls answer.
-/
import Derived.Test.YtkgdenbabafeoaaGreatDoorNumMath
import Derived.Test.YtkgdenbabafeoaaGreatDoorMailMath
namespace Go.Proofs.YtkgdenbabafeoaaGreatDoor
set_option maxRecDepth 100000

/-- P9.1. -/
def mayM (m : Ml) : Bool := decide (0 ≤ m.1 ∧ m.1 < 200 ∧ 0 ≤ m.2 ∧ m.2 ≤ 4398046511104)
theorem mayM_iff {m : Ml} : mayM m = true ↔ 0 ≤ m.1 ∧ m.1 < 200 ∧ 0 ≤ m.2 ∧ m.2 ≤ 4398046511104 := by unfold mayM; exact decide_eq_true_iff
theorem mayM_no {m : Ml} : mayM m = false ↔ ¬ (0 ≤ m.1 ∧ m.1 < 200 ∧ 0 ≤ m.2 ∧ m.2 ≤ 4398046511104) := by unfold mayM; exact decide_eq_false_iff_not
/-- May all of it? -/
def mayA (l : List Ml) : Bool := l.all mayM
theorem mayA_iff {l : List Ml} : mayA l = true ↔ ∀ m ∈ l, mayM m = true := by unfold mayA; rw [List.all_eq_true]
theorem mayA_app (a b : List Ml) : mayA (a ++ b) = (mayA a && mayA b) := by unfold mayA; rw [List.all_append]
theorem mayA_perm {a b : List Ml} (h : a.Perm b) : mayA a = mayA b := by
  rw [Bool.eq_iff_iff, mayA_iff, mayA_iff]
  exact ⟨fun k m hm => k m (h.mem_iff.2 hm), fun k m hm => k m (h.mem_iff.1 hm)⟩

/-- The mail of these Tos, with the Values that the bytes have; as the program reads them. -/
def valsC : List Int → List Int → Option (List Ml × List Int)
  | [], r => some ([], r)
  | t :: ts, r => if (get r).2.2 = 0 then (valsC ts (r.drop (get r).2.1)).map fun p => ((t, IntKind.i64.wrap (get r).1) :: p.1, p.2) else none
theorem valsC_no {t e : Int} {ts r : List Int} (h : get r = (0, 0, e)) (he : e ≠ 0) : valsC (t :: ts) r = none := by
  rw [valsC, h]; exact if_neg he
theorem valsC_yes {t n : Int} {k : Nat} {ts r : List Int} (h : get r = (n, k, 0)) : valsC (t :: ts) r = (valsC ts (r.drop k)).map fun p => ((t, IntKind.i64.wrap n) :: p.1, p.2) := by
  rw [valsC, h]; exact if_pos rfl
theorem valsC_len : ∀ {ts r : List Int} {p : List Ml × List Int}, valsC ts r = some p → p.1.length = ts.length ∧ p.1.map Prod.fst = ts
  | [], r, p, h => by
    injection h with h
    subst h
    exact ⟨rfl, rfl⟩
  | t :: ts, r, p, h => by
    rw [valsC] at h
    by_cases h0 : (get r).2.2 = 0
    · rw [if_pos h0] at h
      cases hv : valsC ts (r.drop (get r).2.1) with
      | none => rw [hv] at h; cases h
      | some q =>
        rw [hv] at h
        injection h with h
        subst h
        obtain ⟨h1, h2⟩ := valsC_len hv
        exact ⟨by simp [h1], by simp [h2]⟩
    · rw [if_neg h0] at h; cases h
/-- The same, as the document reads them. -/
def valsQ : List Int → List Int → Option (List Ml × List Int)
  | [], r => some ([], r)
  | t :: ts, r => match numF 4398046511104 r with
    | some (x, r') => if t < 200 then (valsQ ts r').map fun p => ((t, x) :: p.1, p.2) else none
    | none => none
theorem valsQ_no {t : Int} {ts r : List Int} (h : numF 4398046511104 r = none) : valsQ (t :: ts) r = none := by rw [valsQ, h]
theorem valsQ_far {t : Int} {ts r : List Int} (h : ¬ t < 200) : valsQ (t :: ts) r = none := by
  rw [valsQ]
  cases numF 4398046511104 r with
  | none => rfl
  | some p => exact if_neg h
theorem valsQ_yes {t x : Int} {ts r r' : List Int} (h : numF 4398046511104 r = some (x, r')) (ht : t < 200) : valsQ (t :: ts) r = (valsQ ts r').map fun p => ((t, x) :: p.1, p.2) := by
  rw [valsQ, h]; exact if_pos ht
theorem wrap_low {n : Int} (h0 : 0 ≤ n) (h1 : n ≤ 18446744073709551615) : (0 ≤ IntKind.i64.wrap n ∧ IntKind.i64.wrap n ≤ 4398046511104) ↔ n ≤ 4398046511104 := by
  rw [IntKind.wrap_i64]
  omega
theorem wrap_lowId {n : Int} (h0 : 0 ≤ n) (h1 : n ≤ 4398046511104) : IntKind.i64.wrap n = n := by
  rw [IntKind.wrap_i64]
  omega
/-- Both read alike, where the mail may wait. -/
theorem vals_eq : ∀ (ts r : List Int), (∀ t ∈ ts, 0 ≤ t) → (∀ y ∈ r, 0 ≤ y ∧ y ≤ 255) → valsQ ts r = (valsC ts r).filter fun p => mayA p.1
  | [], r, _, _ => rfl
  | t :: ts, r, ht, hr => by
    rcases get_inv hr with ⟨e, he, hne⟩ | ⟨n, u, he, hl, h0, h1⟩
    · rw [valsQ_no (numF_err he hne), valsC_no he hne]; rfl
    · rw [valsC_yes he]
      have ih := vals_eq ts (r.drop (put n).length) (fun t h => ht t (by simp [h])) (fun y h => hr y (List.mem_of_mem_drop h))
      have h2 : mayM (t, IntKind.i64.wrap n) = decide (t < 200 ∧ n ≤ 4398046511104) := by
        rw [Bool.eq_iff_iff, mayM_iff, decide_eq_true_iff, ← wrap_low h0 h1]
        have := ht t (by simp)
        simp only
        omega
      by_cases hn : n ≤ 4398046511104
      · by_cases hlt : t < 200
        · rw [valsQ_yes (numF_yes he hn) hlt, ih]
          have h3 : mayM (t, IntKind.i64.wrap n) = true := by rw [h2]; exact decide_eq_true ⟨hlt, hn⟩
          rw [wrap_lowId h0 hn] at h3 ⊢
          cases valsC ts (r.drop (put n).length) with
          | none => rfl
          | some p =>
            have h4 : mayA ((t, n) :: p.1) = mayA p.1 := by show (mayM (t, n) && mayA p.1) = _; rw [h3]; rfl
            cases hp : mayA p.1 with
            | true => simp [Option.filter, hp, h4]
            | false => simp [Option.filter, hp, h4]
        · rw [valsQ_far hlt]
          have h3 : mayM (t, IntKind.i64.wrap n) = false := by rw [h2]; exact decide_eq_false fun h => hlt h.1
          cases valsC ts (r.drop (put n).length) with
          | none => rfl
          | some p =>
            have h4 : mayA ((t, IntKind.i64.wrap n) :: p.1) = false := by show (mayM (t, IntKind.i64.wrap n) && mayA p.1) = _; rw [h3]; rfl
            simp [Option.filter, h4]
      · rw [valsQ_no (numF_big he (by omega))]
        have h3 : mayM (t, IntKind.i64.wrap n) = false := by rw [h2]; exact decide_eq_false fun h => hn h.2
        cases valsC ts (r.drop (put n).length) with
        | none => rfl
        | some p =>
          have h4 : mayA ((t, IntKind.i64.wrap n) :: p.1) = false := by show (mayM (t, IntKind.i64.wrap n) && mayA p.1) = _; rw [h3]; rfl
          simp [Option.filter, h4]

/-- What the end of a run's reading tells. -/
def endC : Option (List Ml × List Int) → Option (List Ml)
  | some (l, []) => if mayA l && srtMb l then some l else none
  | _ => none
/-- P9.2: the mail of a run. -/
def runF (b : List Int) : Option (List Ml) :=
  if (ungap b).2.2 = 0 ∧ 1 ≤ (ungap b).1.length ∧ (ungap b).1.length ≤ 1000 then endC (valsC (ungap b).1 (b.drop (ungap b).2.1)) else none
theorem endC_some {o : Option (List Ml × List Int)} {l : List Ml} (h : endC o = some l) : o = some (l, []) ∧ mayA l = true ∧ srtMb l = true := by
  match o, h with
  | some (a, []), h =>
    rw [endC] at h
    by_cases hc : (mayA a && srtMb a) = true
    · rw [if_pos hc] at h
      injection h with h
      subst h
      rw [Bool.and_eq_true] at hc
      exact ⟨rfl, hc.1, hc.2⟩
    · rw [if_neg hc] at h; cases h
  | some (a, x :: r), h => cases h
  | none, h => cases h
theorem endC_more {l : List Ml} {r : List Int} (h : r ≠ []) : endC (some (l, r)) = none := by
  cases r with
  | nil => exact absurd rfl h
  | cons x r => rfl
theorem endC_yes {l : List Ml} (h1 : mayA l = true) (h2 : srtMb l = true) : endC (some (l, [])) = some l := by rw [endC, h1, h2]; rfl
theorem endC_may {l : List Ml} {r : List Int} (h1 : mayA l = false) : endC (some (l, r)) = none := by
  cases r with
  | nil => rw [endC, h1]; rfl
  | cons x r => rfl
theorem endC_srt {l : List Ml} {r : List Int} (h1 : srtMb l = false) : endC (some (l, r)) = none := by
  cases r with
  | nil => rw [endC, h1, Bool.and_false]; rfl
  | cons x r => rfl
theorem runF_inv {b : List Int} {l : List Ml} (h : runF b = some l) : 1 ≤ l.length ∧ l.length ≤ 1000 ∧ mayA l = true ∧ srtMb l = true := by
  unfold runF at h
  split at h
  case isTrue hc =>
    obtain ⟨h1, h2, h3⟩ := endC_some h
    have := (valsC_len h1).1
    simp only at this
    exact ⟨by omega, by omega, h2, h3⟩
  case isFalse => cases h
/-- As the document's own text reads it. -/
def endQ : Option (List Ml × List Int) → List Ml
  | some (l, []) => if srtMb l then l else []
  | _ => []
def runQ (b : List Int) : List Ml := if (ungap b).2.2 = 0 ∧ (ungap b).1.length ≤ 1000 then endQ (valsQ (ungap b).1 (b.drop (ungap b).2.1)) else []
theorem endQ_more {l : List Ml} {r : List Int} (h : r ≠ []) : endQ (some (l, r)) = [] := by
  cases r with
  | nil => exact absurd rfl h
  | cons x r => rfl
theorem endQ_yes {l : List Ml} (h2 : srtMb l = true) : endQ (some (l, [])) = l := by rw [endQ, h2]; rfl
theorem endQ_srt {l : List Ml} {r : List Int} (h1 : srtMb l = false) : endQ (some (l, r)) = [] := by
  cases r with
  | nil => rw [endQ, h1]; rfl
  | cons x r => rfl
theorem end_eq (o : Option (List Ml × List Int)) : endQ (o.filter fun p => mayA p.1) = (endC o).getD [] := by
  match o with
  | none => rfl
  | some (a, r) =>
    cases hm : mayA a with
    | false => rw [endC_may hm]; simp [Option.filter, hm, endQ]
    | true =>
      simp only [Option.filter, hm, if_true]
      cases r with
      | nil =>
        cases hs : srtMb a with
        | true => rw [endC_yes hm hs, endQ_yes hs]; rfl
        | false => rw [endC_srt hs, endQ_srt hs]; rfl
      | cons x r => rfl
theorem ungap_low {b : List Int} (hb : ∀ x ∈ b, 0 ≤ x ∧ x ≤ 255) (h : (ungap b).2.2 = 0) : ∀ t ∈ (ungap b).1, 0 ≤ t := by
  intro t ht
  rcases ungap_inv hb with ⟨e, he, hne⟩ | ⟨l, k, he, hn, _⟩
  · rw [he] at h; exact absurd h hne
  · rw [he] at ht
    obtain ⟨i, hi, hti⟩ := List.mem_iff_getElem.1 ht
    simp only at hi hti
    have ha : AllIn l := by
      unfold Named at hn
      rcases hn with h | h | h | h
      · exact absurd h.1 (by decide)
      · exact absurd h.1 (by decide)
      · exact absurd h.1 (by decide)
      · exact h.2.2.1
    have := (ha i hi).1
    rw [List.getD_eq_getElem?_getD, List.getElem?_eq_getElem hi, hti] at this
    exact this
theorem run_eq {b : List Int} (hb : ∀ x ∈ b, 0 ≤ x ∧ x ≤ 255) : runQ b = (runF b).getD [] := by
  unfold runQ runF
  by_cases h0 : (ungap b).2.2 = 0
  · have hl := ungap_low hb h0
    have hv := vals_eq (ungap b).1 (b.drop (ungap b).2.1) hl (fun y h => hb y (List.mem_of_mem_drop h))
    by_cases h1 : (ungap b).1.length ≤ 1000
    · rw [if_pos ⟨h0, h1⟩]
      by_cases h2 : 1 ≤ (ungap b).1.length
      · rw [if_pos ⟨h0, h2, h1⟩, hv]; exact end_eq _
      · rw [if_neg fun h => h2 h.2.1]
        have h3 : (ungap b).1 = [] := List.eq_nil_of_length_eq_zero (by omega)
        rw [h3]
        cases b.drop (ungap b).2.1 with
        | nil => rfl
        | cons x r => rfl
    · rw [if_neg fun h => h1 h.2, if_neg fun h => h1 h.2.2]; rfl
  · rw [if_neg fun h => h0 h.1, if_neg fun h => h0 h.1]; rfl

/-- The mail of all runs, where there is no more of it than r. -/
def unpF : Nat → List (List Int) → Option (List (List Ml))
  | _, [] => some []
  | r, b :: bs => match runF b with
    | none => none
    | some l => if l.length ≤ r then (unpF (r - l.length) bs).map (l :: ·) else none
/-- So far: k runs are read, f is their mail, there is room for r more. -/
def UpTo (r0 : Nat) (rs : List (List Int)) (k : Nat) (f : List (List Ml)) : Prop :=
  f.length = k ∧ sumM f ≤ r0 ∧ (∀ l ∈ f, 1 ≤ l.length ∧ l.length ≤ 1000 ∧ mayA l = true ∧ srtMb l = true) ∧ unpF r0 rs = (unpF (r0 - sumM f) (rs.drop k)).map (f ++ ·)
theorem UpTo.zero (r0 : Nat) (rs : List (List Int)) : UpTo r0 rs 0 [] := ⟨rfl, by simp [sumM], by simp, by simp [sumM]⟩
theorem sumM_snoc (f : List (List Ml)) (l : List Ml) : sumM (f ++ [l]) = sumM f + l.length := by unfold sumM; simp
theorem UpTo.bad {r0 k : Nat} {rs : List (List Int)} {f : List (List Ml)} {b : List Int} (h : UpTo r0 rs k f) (hb : rs[k]? = some b) (hr : runF b = none) : unpF r0 rs = none := by
  obtain ⟨_, _, _, h4⟩ := h
  obtain ⟨hk, rfl⟩ := List.getElem?_eq_some_iff.1 hb
  rw [h4, List.drop_eq_getElem_cons hk, unpF, hr]
  rfl
theorem UpTo.much {r0 k : Nat} {rs : List (List Int)} {f : List (List Ml)} {b : List Int} {l : List Ml} (h : UpTo r0 rs k f) (hb : rs[k]? = some b) (hr : runF b = some l) (hl : r0 < sumM f + l.length) : unpF r0 rs = none := by
  obtain ⟨_, h2, _, h4⟩ := h
  obtain ⟨hk, rfl⟩ := List.getElem?_eq_some_iff.1 hb
  rw [h4, List.drop_eq_getElem_cons hk, unpF, hr]
  simp only
  rw [if_neg (by omega)]
  rfl
theorem UpTo.step {r0 k : Nat} {rs : List (List Int)} {f : List (List Ml)} {b : List Int} {l : List Ml} (h : UpTo r0 rs k f) (hb : rs[k]? = some b) (hr : runF b = some l) (hl : sumM f + l.length ≤ r0) : UpTo r0 rs (k + 1) (f ++ [l]) := by
  obtain ⟨h1, h2, h3, h4⟩ := h
  obtain ⟨hk, rfl⟩ := List.getElem?_eq_some_iff.1 hb
  refine ⟨by simp [h1], by rw [sumM_snoc]; exact hl, fun x hx => ?_, ?_⟩
  · rcases List.mem_append.1 hx with hx | hx
    · exact h3 x hx
    · rw [List.mem_singleton.1 hx]; exact runF_inv hr
  · rw [h4, List.drop_eq_getElem_cons hk, unpF, hr]
    simp only
    rw [if_pos (by omega), sumM_snoc, Nat.sub_sub]
    cases unpF (r0 - (sumM f + l.length)) (rs.drop (k + 1)) with
    | none => rfl
    | some g => simp
theorem UpTo.done {r0 k : Nat} {rs : List (List Int)} {f : List (List Ml)} (h : UpTo r0 rs k f) (hk : rs.length ≤ k) : unpF r0 rs = some f := by
  obtain ⟨_, _, _, h4⟩ := h
  rw [h4, List.drop_eq_nil_of_le hk]
  simp [unpF]
theorem unpF_inv : ∀ {rs : List (List Int)} {r : Nat} {f : List (List Ml)}, unpF r rs = some f → f.length = rs.length ∧ sumM f ≤ r ∧ ∀ l ∈ f, 1 ≤ l.length ∧ l.length ≤ 1000 ∧ mayA l = true ∧ srtMb l = true
  | [], r, f, h => by
    injection h with h
    subst h
    exact ⟨rfl, by simp [sumM], by simp⟩
  | b :: bs, r, f, h => by
    rw [unpF] at h
    cases hr : runF b with
    | none => rw [hr] at h; cases h
    | some l =>
      rw [hr] at h
      simp only at h
      by_cases hl : l.length ≤ r
      · rw [if_pos hl] at h
        cases hu : unpF (r - l.length) bs with
        | none => rw [hu] at h; cases h
        | some g =>
          rw [hu] at h
          injection h with h
          subst h
          obtain ⟨h1, h2, h3⟩ := unpF_inv hu
          refine ⟨by simp [h1], by unfold sumM at *; simp; omega, fun x hx => ?_⟩
          rcases List.mem_cons.1 hx with rfl | hx
          · exact runF_inv hr
          · exact h3 x hx
      · rw [if_neg hl] at h; cases h

/-- P9.3, without the runs' bytes. -/
def okQ (n : Int) (lo : List Ml) (m : Nat) : Bool := decide (1 ≤ n ∧ n ≤ 1000 ∧ (lo.length : Int) < n ∧ m ≤ 5000) && mayA lo
/-- P9.3: the mail of its runs, where it may be. -/
def quF (n : Int) (lo : List Ml) (rs : List (List Int)) : Option (List (List Ml)) := if okQ n lo rs.length then unpF (5000 - lo.length) rs else none
theorem okQ_iff {n : Int} {lo : List Ml} {m : Nat} : okQ n lo m = true ↔ (1 ≤ n ∧ n ≤ 1000 ∧ (lo.length : Int) < n ∧ m ≤ 5000) ∧ mayA lo = true := by
  unfold okQ; rw [Bool.and_eq_true, decide_eq_true_iff]
theorem quF_no {n : Int} {lo : List Ml} {rs : List (List Int)} (h : okQ n lo rs.length = false) : quF n lo rs = none := by unfold quF; rw [h]; rfl
theorem quF_yes {n : Int} {lo : List Ml} {rs : List (List Int)} (h : okQ n lo rs.length = true) : quF n lo rs = unpF (5000 - lo.length) rs := by unfold quF; rw [h]; rfl
theorem quF_inv {n : Int} {lo : List Ml} {rs : List (List Int)} {f : List (List Ml)} (h : quF n lo rs = some f) : 1 ≤ n ∧ n ≤ 1000 ∧ (lo.length : Int) < n ∧ rs.length ≤ 5000 ∧ mayA lo = true ∧ f.length = rs.length ∧ lo.length + sumM f ≤ 5000 ∧ ∀ l ∈ f, 1 ≤ l.length ∧ l.length ≤ 1000 ∧ mayA l = true ∧ srtMb l = true := by
  cases ho : okQ n lo rs.length with
  | false => rw [quF_no ho] at h; cases h
  | true =>
    rw [quF_yes ho] at h
    obtain ⟨⟨h1, h2, h3, h4⟩, h5⟩ := okQ_iff.1 ho
    obtain ⟨k1, k2, k3⟩ := unpF_inv h
    exact ⟨h1, h2, h3, h4, h5, k1, by omega, k3⟩
theorem sumM_ge : ∀ (f : List (List Ml)), (∀ l ∈ f, 1 ≤ l.length) → f.length ≤ sumM f
  | [], _ => by simp [sumM]
  | l :: f, h => by
    have h1 := sumM_ge f fun x hx => h x (by simp [hx])
    have h2 := h l (by simp)
    unfold sumM at *
    simp only [List.map_cons, List.sum_cons, List.length_cons]
    omega
/-- The error of P9.3. -/
def errQ {α : Type} : Option α → Int
  | none => 9
  | some _ => 0
/-- P9.5: all mail, in order. -/
def drainF (lo : List Ml) (o : Option (List (List Ml))) : List Ml := match o with
  | none => []
  | some f => sortM (lo ++ f.flatten)
/-- P9.6. -/
def countF (lo : List Ml) (o : Option (List (List Ml))) : Nat := match o with
  | none => 0
  | some f => lo.length + sumM f
/-- The error of P9.4. -/
def pushE (lo : List Ml) (m : Ml) (o : Option (List (List Ml))) : Int := match o with
  | none => 9
  | some f => if mayM m then (if lo.length + sumM f = 5000 then 10 else 0) else 2
/-- P9.2: the bytes of a run. -/
def runB (l : List Ml) : List Int := gapsF (l.map Prod.fst) 0 ++ l.flatMap fun m => put m.2
/-- P9.4: what is loose, and the runs. -/
def looF (n : Int) (lo : List Ml) (m : Ml) : List Ml := if (lo.length : Int) + 1 = n then [] else lo ++ [m]
def rnsF (n : Int) (lo : List Ml) (rs : List (List Int)) (m : Ml) : List (List Int) := if (lo.length : Int) + 1 = n then rs ++ [runB (sortM (lo ++ [m]))] else rs
end Go.Proofs.YtkgdenbabafeoaaGreatDoor
