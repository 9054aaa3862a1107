/-
  Plain mathematics of P2.4 (no program): of frames one behind the other whose end is torn off all whole ones are had, and no other.
-/
import Derived.Test.YtjagefchoggbaabFrameMath
import Derived.Test.YtjagefchoggbaabAllWalk
namespace Go.Proofs.Ytjagefchoggbaab
open Go.ChangeShapes Go.WideShapes Go.ChangeAt Go.RowKit

/-- The bytes of a number, cut short, are no number: the bytes end. -/
theorem getR_cut : ∀ (f i : Nat) (n acc : Int) (c : Nat), i + f = 9 → 0 ≤ n → n < 128 ^ (f + 1) → c < (putL f n).length → getR i acc ((putL f n).take c) = (0, 0, 4)
  | _, _, _, _, 0, _, _, _, _ => by simp [getR]
  | 0, i, n, acc, c + 1, _, _, _, hc => by simp [putL] at hc
  | f + 1, i, n, acc, c + 1, hi, h0, h1, hc => by
    by_cases hn : n < 128
    · simp [putL, hn] at hc
    · have hd : n / 128 < 128 ^ (f + 1) := div128_lt (by rw [p128] at h1; exact h1)
      simp only [putL, if_neg hn, List.length_cons] at hc
      simp only [putL, if_neg hn, List.take_succ_cons]
      rw [getR, if_neg (by omega), if_pos (by omega)]
      exact getR_cut f (i + 1) (n / 128) _ c (by omega) (by omega) hd (by omega)
theorem get_cut {n : Int} {c : Nat} (h0 : 0 ≤ n) (h1 : n ≤ 18446744073709551615) (hc : c < (put n).length) : get ((put n).take c) = (0, 0, 4) :=
  getR_cut 9 0 n 0 c rfl h0 (lt_128_10 h1) hc
/-- A frame whose end is torn off is refused. -/
theorem unwrapF_torn {a : List Int} {c : Nat} (hl : a.length ≤ 20000) (hc : c < (wrap a).length) : (unwrapF ((wrap a).take c)).2.2 ≠ 0 := by
  rw [wrap_len] at hc
  by_cases hk : c < (put (a.length : Int)).length
  · have e : (wrap a).take c = (put (a.length : Int)).take c := by
      unfold wrap
      rw [List.append_assoc, List.take_append_of_le_length (by omega)]
    rw [e, unwrapF_err (get_cut (by omega) (by omega) hk) (by decide)]
    decide
  · have e : (wrap a).take c = put (a.length : Int) ++ (a ++ four (crc (put a.length ++ a))).take (c - (put (a.length : Int)).length) := by
      unfold wrap
      rw [List.append_assoc, List.take_append, List.take_of_length_le (by omega)]
    have hg : get ((wrap a).take c) = ((a.length : Int), (put (a.length : Int)).length, 0) := by
      rw [e]; exact get_put _ (by omega) (by omega)
    rw [unwrapF_short hg hl (by rw [List.length_take]; omega)]
    decide

/-- The frames of some payloads, one behind the other. -/
def cat : List (List Int) → List Int
  | [] => []
  | p :: r => wrap p ++ cat r
theorem cat_append : ∀ (a b : List (List Int)), cat (a ++ b) = cat a ++ cat b
  | [], b => rfl
  | p :: a, b => by simp [cat, cat_append a b]
theorem wrap_pos (p : List Int) : 5 ≤ (wrap p).length := by have := wrap_len p; have := put_len (p.length : Int); omega
theorem cat_bytes : ∀ (ps : List (List Int)), (∀ p ∈ ps, (∀ x ∈ p, 0 ≤ x ∧ x ≤ 255) ∧ p.length ≤ 20000) → ∀ x ∈ cat ps, 0 ≤ x ∧ x ≤ 255
  | [], _, x, hx => by simp [cat] at hx
  | p :: r, h, x, hx => by
    rcases List.mem_append.1 hx with h1 | h1
    · exact wrap_bytes (h p (by simp)).1 (h p (by simp)).2 x h1
    · exact cat_bytes r (fun q hq => h q (by simp [hq])) x h1

/-- Of the first k bytes of frames: those that end within them are had, and no other. -/
theorem allR_cat (xs : List Int) (k : Nat) : ∀ (ps : List (List Int)) (f u : Nat) (out : List (List Int)) (j : Nat), (∀ p ∈ ps, p.length ≤ 20000) → xs.drop u = (cat ps).take (k - u) → u ≤ k → k - u < f →
    j ≤ ps.length → u + (cat (ps.take j)).length ≤ k → (∀ p r, ps.drop j = p :: r → k < u + (cat (ps.take j)).length + (wrap p).length) →
    allR xs f u out = (out ++ ps.take j, u + (cat (ps.take j)).length) := by
  intro ps
  induction ps with
  | nil =>
    intro f u out j _ hd _ hf hj _ _
    have hj0 : j = 0 := by simpa using hj
    subst hj0
    rw [allR_stop (by omega)]
    · simp [cat]
    · have hun : unwrapF [] = ([], 0, 4) := by decide
      rw [hd]
      simp only [cat, List.take_nil, hun]
      decide
  | cons p ps ih =>
    intro f u out j hl hd hu hf hj hle hnext
    rcases Nat.eq_zero_or_pos j with rfl | hj0
    · have h1 := hnext p ps (by simp)
      simp [cat] at h1
      rw [allR_stop (by omega)]
      · simp [cat]
      · rw [hd]
        show (unwrapF ((wrap p ++ cat ps).take (k - u))).2.2 ≠ 0
        rw [List.take_append_of_le_length (by omega)]
        exact unwrapF_torn (hl p (by simp)) (by omega)
    · obtain ⟨j, rfl⟩ : ∃ j', j = j' + 1 := ⟨j - 1, by omega⟩
      obtain ⟨f, rfl⟩ : ∃ f', f = f' + 1 := ⟨f - 1, by omega⟩
      have hcl : (cat ((p :: ps).take (j + 1))).length = (wrap p).length + (cat (ps.take j)).length := by simp [cat]
      rw [hcl] at hle
      have hwp := wrap_pos p
      have hsplit : xs.drop u = wrap p ++ (cat ps).take (k - u - (wrap p).length) := by
        rw [hd]
        show (wrap p ++ cat ps).take (k - u) = _
        rw [List.take_append, List.take_of_length_le (by omega)]
      have hun : unwrapF (xs.drop u) = (p, (wrap p).length, 0) := by rw [hsplit]; exact unwrapF_wrap p _ (hl p (by simp))
      rw [allR_go (by rw [hun]), hun]
      simp only []
      have hd2 : xs.drop (u + (wrap p).length) = (cat ps).take (k - (u + (wrap p).length)) := by
        rw [← List.drop_drop, hsplit, List.drop_left, Nat.sub_add_eq]
      have ih2 := ih f (u + (wrap p).length) (out ++ [p]) j (fun q hq => hl q (by simp [hq])) hd2 (by omega) (by omega) (by simpa using hj) (by omega) (fun q r hqr => by
        have := hnext q r (by simpa using hqr)
        rw [hcl] at this
        omega)
      refine Eq.trans ih2 ?_
      rw [hcl]
      simp [Nat.add_assoc]
theorem allF_cat {ps : List (List Int)} {k j : Nat} (hl : ∀ p ∈ ps, p.length ≤ 20000) (hk : k ≤ (cat ps).length) (hj : j ≤ ps.length) (hle : (cat (ps.take j)).length ≤ k) (hnext : ∀ p r, ps.drop j = p :: r → k < (cat (ps.take j)).length + (wrap p).length) :
    allF ((cat ps).take k) = (ps.take j, (cat (ps.take j)).length) := by
  unfold allF
  have hlen : ((cat ps).take k).length = k := List.length_take_of_le hk
  have := allR_cat ((cat ps).take k) k ps (((cat ps).take k).length + 1) 0 [] j hl (by simp) (by omega) (by omega) hj (by omega) (fun p r h => by have := hnext p r h; omega)
  simpa using this
/-- Where the cut lies among the frames. -/
theorem cut_at : ∀ (ps : List (List Int)) (k : Nat), ∃ j, j ≤ ps.length ∧ (cat (ps.take j)).length ≤ k ∧ ∀ p r, ps.drop j = p :: r → k < (cat (ps.take j)).length + (wrap p).length
  | [], k => ⟨0, by simp, by simp [cat], fun p r h => by simp at h⟩
  | p :: ps, k => by
    by_cases h : k < (wrap p).length
    · refine ⟨0, by simp, by simp [cat], fun q r hq => ?_⟩
      simp at hq
      rw [← hq.1]
      simp [cat]; omega
    · obtain ⟨j, h1, h2, h3⟩ := cut_at ps (k - (wrap p).length)
      refine ⟨j + 1, by simp; omega, by simp [cat]; omega, fun q r hq => ?_⟩
      have := h3 q r (by simpa using hq)
      simp [cat]; omega
end Go.Proofs.Ytjagefchoggbaab
