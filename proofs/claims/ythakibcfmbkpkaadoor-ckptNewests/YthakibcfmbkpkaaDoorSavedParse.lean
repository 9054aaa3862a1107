/-
  P14.3 as functions: what the program makes of a payload, and that it finds again what was saved.
-/
import Derived.Test.YthakibcfmbkpkaaDoorSavedMath
import Derived.Test.YthakibcfmbkpkaaDoorFrameMath
namespace Go.Proofs.YthakibcfmbkpkaaDoor
set_option maxRecDepth 100000

/-- A number, 0 where there is none, and what is left. -/
def numC (l : List Int) : Int × List Int := (IntKind.i64.wrap (get l).1, l.drop (get l).2.1)
/-- A count, at most as many as there are bytes. -/
def cntC (l : List Int) : Int × List Int := (min (numC l).1 ((numC l).2.length : Int), (numC l).2)
/-- So many pairs of numbers, each less d, and what is left. -/
def pairsK (d : Int) : Nat → List Int → List Ml × List Int
  | 0, l => ([], l)
  | k + 1, l => ((pairsK d k l).1 ++ [(IntKind.i64.wrap ((numC (pairsK d k l).2).1 - d), IntKind.i64.wrap ((numC (numC (pairsK d k l).2).2).1 - d))], (numC (numC (pairsK d k l).2).2).2)
/-- What is made of a payload. -/
def parseC (l : List Int) : SvS :=
  let l3 := (numC (numC (numC l).2).2).2
  let q := pairsK 1 (cntC l3).1.toNat (cntC l3).2
  ⟨(numC l).1, (numC (numC l).2).1, (numC (numC (numC l).2).2).1 == 1, q.1, (pairsK 0 (cntC q.2).1.toNat (cntC q.2).2).1⟩
/-- P14.3 -/
def decS (b : List Int) : SvS × Int :=
  if (unwrapF b).2.2 = 0 then (if encS (parseC (unwrapF b).1) = (b, 0) then (parseC (unwrapF b).1, 0) else (sv0, 3)) else (sv0, (unwrapF b).2.2)
theorem numC_put {n : Int} (t : List Int) (h0 : 0 ≤ n) (h1 : n ≤ 4398046511105) : numC (put n ++ t) = (n, t) := by
  unfold numC
  rw [get_put t h0 (by omega), List.drop_left, IntKind.wrap_i64]
  congr 1
  omega
theorem numC_bytes {l : List Int} (h : ∀ x ∈ l, 0 ≤ x ∧ x ≤ 255) : ∀ x ∈ (numC l).2, 0 ≤ x ∧ x ≤ 255 := fun x hx => h x (List.mem_of_mem_drop hx)
theorem numC_len (l : List Int) : (numC l).2.length ≤ l.length := by unfold numC; rw [List.length_drop]; omega
theorem cntC_put {n : Nat} (t : List Int) (h0 : n ≤ t.length) (h1 : n ≤ 5000) : cntC (put (n : Int) ++ t) = ((n : Int), t) := by
  unfold cntC
  rw [numC_put t (by omega) (by omega)]
  simp only
  rw [Int.min_eq_left (by omega)]
theorem bytN_ge : ∀ l : List Int, l.length ≤ (bytN l).length
  | [] => Nat.le_refl _
  | n :: l => by
    have := bytN_ge l
    have h := put_len n
    show l.length + 1 ≤ (put n ++ bytN l).length
    rw [List.length_append]
    omega
theorem pairsK_bytes {d : Int} {l : List Int} (h : ∀ x ∈ l, 0 ≤ x ∧ x ≤ 255) : ∀ k, ∀ x ∈ (pairsK d k l).2, 0 ≤ x ∧ x ≤ 255
  | 0 => h
  | k + 1 => numC_bytes (numC_bytes (pairsK_bytes h k))
theorem pairsK_count (d : Int) (l : List Int) : ∀ k, (pairsK d k l).1.length = k
  | 0 => rfl
  | k + 1 => by show ((pairsK d k l).1 ++ [_]).length = _; rw [List.length_append, pairsK_count d l k]; rfl
theorem pairsK_len (d : Int) (l : List Int) : ∀ k, (pairsK d k l).2.length ≤ l.length
  | 0 => Nat.le_refl _
  | k + 1 => Nat.le_trans (numC_len _) (Nat.le_trans (numC_len _) (pairsK_len d l k))
/-- Pairs that were written are had again. -/
theorem pairsK_put (d : Int) (hd : d = 0 ∨ d = 1) (t : List Int) : ∀ (k : Nat) (ms : List Ml), k ≤ ms.length → (∀ x ∈ ms, 0 ≤ x.1 + d ∧ x.1 + d ≤ 4398046511105 ∧ 0 ≤ x.2 + d ∧ x.2 + d ≤ 4398046511105) →
    pairsK d k (bytN (pairN d ms) ++ t) = (ms.take k, bytN (pairN d (ms.drop k)) ++ t)
  | 0, ms, _, _ => rfl
  | k + 1, ms, hk, h => by
    have ih := pairsK_put d hd t k ms (by omega) h
    obtain ⟨x, hx⟩ : ∃ x, ms[k]? = some x := ⟨ms[k], List.getElem?_eq_getElem (by omega)⟩
    have hb := h x (List.mem_of_getElem? hx)
    have e : ms.drop k = x :: ms.drop (k + 1) := by
      rw [List.drop_eq_getElem_cons (by omega)]
      rw [List.getElem?_eq_getElem (by omega)] at hx
      injection hx with hx
      rw [hx]
    have e2 : bytN (pairN d (ms.drop k)) ++ t = put (x.1 + d) ++ (put (x.2 + d) ++ (bytN (pairN d (ms.drop (k + 1))) ++ t)) := by
      rw [e]
      show (put (x.1 + d) ++ (put (x.2 + d) ++ bytN (pairN d (ms.drop (k + 1))))) ++ t = _
      simp only [List.append_assoc]
    unfold pairsK
    rw [ih]
    simp only
    rw [e2, numC_put _ hb.1 hb.2.1]
    simp only
    rw [numC_put _ hb.2.2.1 hb.2.2.2, take_snoc hx]
    have w1 : IntKind.i64.wrap (x.1 + d - d) = x.1 := by rw [IntKind.wrap_i64]; rcases hd with rfl | rfl <;> omega
    have w2 : IntKind.i64.wrap (x.2 + d - d) = x.2 := by rw [IntKind.wrap_i64]; rcases hd with rfl | rfl <;> omega
    rw [w1, w2]
/-- What was saved is found again. -/
theorem parse_enc {s : SvS} (h : svMay s = true) : parseC (bytN (numsS s)) = s := by
  obtain ⟨⟨h1, h2, h3⟩, h4, h5, h6, _, h7⟩ := svMay_iff.1 h
  have e : bytN (numsS s) = put s.step ++ (put s.phase ++ (put (if s.fresh then 1 else 0) ++ (put (s.vals.length : Int) ++ (bytN (pairN 1 s.vals) ++ (put (s.mail.length : Int) ++ (bytN (pairN 0 s.mail) ++ [])))))) := by
    unfold numsS
    rw [bytN_app, bytN_app, bytN_app, bytN_one]
    show (put s.step ++ (put s.phase ++ (put (if s.fresh then 1 else 0) ++ (put (s.vals.length : Int) ++ [])))) ++ _ = _
    simp only [List.append_assoc, List.append_nil]
  have v1 : ∀ x ∈ s.vals, 0 ≤ x.1 + 1 ∧ x.1 + 1 ≤ 4398046511105 ∧ 0 ≤ x.2 + 1 ∧ x.2 + 1 ≤ 4398046511105 := fun x hx => by
    have := valS_iff.1 (valA_iff.1 h5 x hx); omega
  have v2 : ∀ x ∈ s.mail, 0 ≤ x.1 + 0 ∧ x.1 + 0 ≤ 4398046511105 ∧ 0 ≤ x.2 + 0 ∧ x.2 + 0 ≤ 4398046511105 := fun x hx => by
    have := mayM_iff.1 (mayA_iff.1 h7 x hx); omega
  have l1 : s.vals.length ≤ (bytN (pairN 1 s.vals) ++ (put (s.mail.length : Int) ++ (bytN (pairN 0 s.mail) ++ []))).length := by
    have := bytN_ge (pairN 1 s.vals)
    rw [pairN_len] at this
    rw [List.length_append]
    omega
  have l2 : s.mail.length ≤ (bytN (pairN 0 s.mail) ++ []).length := by
    have := bytN_ge (pairN 0 s.mail)
    rw [pairN_len] at this
    rw [List.length_append]
    omega
  have f0 : (0 : Int) ≤ (if s.fresh then 1 else 0) ∧ (if s.fresh then (1 : Int) else 0) ≤ 4398046511105 := by cases s.fresh <;> simp
  have f1 : ((if s.fresh then (1 : Int) else 0) == 1) = s.fresh := by cases s.fresh <;> rfl
  rw [e]
  unfold parseC
  rw [numC_put _ h1 (by omega)]
  simp only
  rw [numC_put _ (by omega) (by omega)]
  simp only
  rw [numC_put _ f0.1 f0.2]
  simp only
  rw [cntC_put _ l1 (by omega)]
  simp only [Int.toNat_natCast]
  rw [pairsK_put 1 (.inr rfl) _ _ s.vals (Nat.le_refl _) v1]
  simp only [List.take_length, List.drop_length]
  show SvS.mk _ _ _ _ _ = _
  have e3 : bytN (pairN 1 ([] : List Ml)) ++ (put (s.mail.length : Int) ++ (bytN (pairN 0 s.mail) ++ [])) = put (s.mail.length : Int) ++ (bytN (pairN 0 s.mail) ++ []) := rfl
  rw [e3, cntC_put _ l2 (by omega)]
  simp only [Int.toNat_natCast]
  rw [pairsK_put 0 (.inl rfl) _ _ s.mail (Nat.le_refl _) v2]
  simp only [List.take_length]
  rw [f1]
/-- Bytes that are a form of something say what. -/
theorem enc_back {s : SvS} {b : List Int} (h : encS s = (b, 0)) : unwrapF b = (bytN (numsS s), b.length, 0) ∧ svMay s = true ∧ parseC (unwrapF b).1 = s := by
  cases hm : svMay s with
  | false => rw [encS_no hm] at h; injection h with _ h; cases h
  | true =>
    by_cases h2 : (bytN (numsS s)).length ≤ 20000
    · rw [encS_yes hm h2] at h
      injection h with h _
      have := unwrapF_wrap (bytN (numsS s)) [] h2
      rw [List.append_nil, h] at this
      refine ⟨this, rfl, ?_⟩
      rw [this]
      exact parse_enc hm
    · rw [encS_big hm h2] at h; injection h with _ h; cases h
theorem decS_yes {s : SvS} {b : List Int} (h : encS s = (b, 0)) : decS b = (s, 0) := by
  obtain ⟨h1, _, h3⟩ := enc_back h
  unfold decS
  rw [h3, if_pos (by rw [h1]), if_pos h]
theorem decS_no {b : List Int} (h0 : (unwrapF b).2.2 = 0) (h : ∀ s, encS s ≠ (b, 0)) : decS b = (sv0, 3) := by
  unfold decS
  rw [if_pos h0, if_neg (h _)]
theorem decS_err {b : List Int} (h0 : ¬ (unwrapF b).2.2 = 0) : decS b = (sv0, (unwrapF b).2.2) := by
  unfold decS
  rw [if_neg h0]
end Go.Proofs.YthakibcfmbkpkaaDoor
