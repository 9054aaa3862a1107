/-
  Plain mathematics of P3: which disk may be, and where a name stands.
-/
import Derived.Test.YthakibcfmbkpkaaDoorDiskMem
namespace Go.Proofs.YthakibcfmbkpkaaDoor
set_option maxRecDepth 100000

theorem name_eq (a b : ByteArray) : a.toList = b.toList ↔ a = b := by
  rw [ByteArray.toList_eq, ByteArray.toList_eq]
  constructor
  · intro h
    have h2 : a.data = b.data := by rw [← Array.toArray_toList (xs := a.data), h, Array.toArray_toList]
    cases a; cases b; simp_all
  · intro h; rw [h]
theorem name_yes {a b : ByteArray} (h : a = b) : (a.toList == b.toList) = true := by rw [h]; simp
theorem name_no {a b : ByteArray} (h : a ≠ b) : (a.toList == b.toList) = false := by
  rw [beq_eq_false_iff_ne]; exact fun e => h ((name_eq a b).1 e)

theorem atF_cons_eq {f : FileL} {r : List FileL} {n : ByteArray} (h : f.name = n) : atF (f :: r) n = 0 := by simp [atF, h]
theorem atF_cases : ∀ (fs : List FileL) (n : ByteArray), (∃ k : Nat, k < fs.length ∧ atF fs n = k ∧ (fs.getD k noF).name = n ∧ ∀ j, j < k → (fs.getD j noF).name ≠ n) ∨ (atF fs n = -1 ∧ ∀ j, j < fs.length → (fs.getD j noF).name ≠ n)
  | [], n => .inr ⟨rfl, fun j hj => by simp at hj⟩
  | f :: r, n => by
    by_cases h : f.name = n
    · exact .inl ⟨0, by simp, by simp [atF, h], by simpa using h, fun j hj => by omega⟩
    · rcases atF_cases r n with ⟨k, hk, e, hn, hno⟩ | ⟨e, hno⟩
      · refine .inl ⟨k + 1, by simp; omega, ?_, by simpa using hn, ?_⟩
        · rw [atF, if_neg h, if_neg (by omega), e]; rfl
        · intro j hj
          cases j with
          | zero => simpa using h
          | succ j => simpa using hno j (by omega)
      · refine .inr ⟨?_, ?_⟩
        · rw [atF, if_neg h, if_pos (by omega)]
        · intro j hj
          cases j with
          | zero => simpa using h
          | succ j => simpa using hno j (by simp at hj; omega)
theorem atF_at {fs : List FileL} {n : ByteArray} {k : Nat} (hk : k < fs.length) (hn : (fs.getD k noF).name = n) (hno : ∀ j, j < k → (fs.getD j noF).name ≠ n) : atF fs n = k := by
  rcases atF_cases fs n with ⟨m, hm, e, h1, h2⟩ | ⟨_, h2⟩
  · rcases Nat.lt_trichotomy m k with h | h | h
    · exact absurd h1 (hno m h)
    · rw [e, h]
    · exact absurd hn (h2 k h)
  · exact absurd hn (h2 k hk)
theorem atF_none {fs : List FileL} {n : ByteArray} (hno : ∀ j, j < fs.length → (fs.getD j noF).name ≠ n) : atF fs n = -1 := by
  rcases atF_cases fs n with ⟨m, hm, e, h1, h2⟩ | ⟨h, _⟩
  · exact absurd h1 (hno m hm)
  · exact h

/-- A name of 1 to MaxName bytes. -/
def nmB (n : ByteArray) : Bool := decide (1 ≤ n.size ∧ n.size ≤ 20)
/-- P3.1 of one file. -/
def okB (f : FileL) : Bool := nmB f.name && decide (f.data.length ≤ 100000) && decide (0 ≤ f.synced) && decide (f.synced ≤ f.data.length)
def distB : List FileL → Bool
  | [] => true
  | f :: r => r.all (fun g => !decide (g.name = f.name)) && distB r
/-- P3.1 -/
def mayB (fs : List FileL) : Bool := decide (fs.length ≤ 40) && fs.all okB && distB fs

theorem all_getD {p : FileL → Bool} : ∀ {fs : List FileL}, fs.all p = true ↔ ∀ i, i < fs.length → p (fs.getD i noF) = true
  | [] => by simp
  | f :: r => by
    rw [List.all_cons, Bool.and_eq_true, all_getD (fs := r)]
    constructor
    · rintro ⟨h1, h2⟩ i hi
      cases i with
      | zero => simpa using h1
      | succ i => simpa using h2 i (by simp at hi; omega)
    · intro h
      exact ⟨by simpa using h 0 (by simp), fun i hi => by simpa using h (i + 1) (by simp; omega)⟩
theorem dist_iff : ∀ {fs : List FileL}, distB fs = true ↔ ∀ i j, i < j → j < fs.length → (fs.getD i noF).name ≠ (fs.getD j noF).name
  | [] => by simp [distB]
  | f :: r => by
    rw [distB, Bool.and_eq_true, dist_iff (fs := r), all_getD]
    constructor
    · rintro ⟨h1, h2⟩ i j hij hj
      cases j with
      | zero => omega
      | succ j =>
        cases i with
        | zero =>
          have := h1 j (by simp at hj; omega)
          simp at this
          simpa using fun e => this e.symm
        | succ i => simpa using h2 i j (by omega) (by simp at hj; omega)
    · intro h
      refine ⟨fun i hi => ?_, fun i j hij hj => ?_⟩
      · have := h 0 (i + 1) (by omega) (by simp; omega)
        simp at this ⊢
        exact fun e => this e.symm
      · simpa using h (i + 1) (j + 1) (by omega) (by simp; omega)
theorem may_iff {fs : List FileL} : mayB fs = true ↔ fs.length ≤ 40 ∧ (∀ i, i < fs.length → okB (fs.getD i noF) = true) ∧ ∀ i j, i < j → j < fs.length → (fs.getD i noF).name ≠ (fs.getD j noF).name := by
  rw [mayB, Bool.and_eq_true, Bool.and_eq_true, all_getD, dist_iff, decide_eq_true_eq, and_assoc]
theorem may_long {fs : List FileL} (h : 40 < fs.length) : mayB fs = false := by
  rw [Bool.eq_false_iff]; intro e; have := (may_iff.1 e).1; omega
theorem may_bad {fs : List FileL} {k : Nat} (hk : k < fs.length) (h : okB (fs.getD k noF) = false) : mayB fs = false := by
  rw [Bool.eq_false_iff]; intro e; have := (may_iff.1 e).2.1 k hk; rw [h] at this; cases this
theorem may_twice {fs : List FileL} {k : Nat} (hk : k < fs.length) (h : atF fs (fs.getD k noF).name ≠ k) : mayB fs = false := by
  rw [Bool.eq_false_iff]; intro e
  have hd := (may_iff.1 e).2.2
  exact h (atF_at hk rfl (fun j hj => hd j k hj hk))
theorem may_good {fs : List FileL} (h1 : fs.length ≤ 40) (h2 : ∀ i, i < fs.length → okB (fs.getD i noF) = true) (h3 : ∀ i, i < fs.length → atF fs (fs.getD i noF).name = i) : mayB fs = true := by
  refine may_iff.2 ⟨h1, h2, fun i j hij hj e => ?_⟩
  have a := h3 i (by omega)
  have b := h3 j hj
  rw [e, b] at a
  omega
theorem ok_iff {f : FileL} : okB f = true ↔ nmB f.name = true ∧ f.data.length ≤ 100000 ∧ 0 ≤ f.synced ∧ f.synced ≤ f.data.length := by
  simp [okB, and_assoc]
theorem ok_name {f : FileL} (h : nmB f.name = false) : okB f = false := by simp [okB, h]
theorem ok_long {f : FileL} (h : 100000 < f.data.length) : okB f = false := by
  rw [Bool.eq_false_iff]; intro e; have := (ok_iff.1 e).2.1; omega
theorem ok_sync {f : FileL} (h : ¬ (0 ≤ f.synced ∧ f.synced ≤ f.data.length)) : okB f = false := by
  rw [Bool.eq_false_iff]; intro e; exact h (ok_iff.1 e).2.2
theorem ok_good {f : FileL} (h0 : nmB f.name = true) (h1 : f.data.length ≤ 100000) (h2 : 0 ≤ f.synced) (h3 : f.synced ≤ f.data.length) : okB f = true := ok_iff.2 ⟨h0, h1, h2, h3⟩

theorem getD_take {fs : List FileL} {k i : Nat} (h : i < k) : (fs.take k).getD i noF = fs.getD i noF := by
  rw [List.getD_eq_getElem?_getD, List.getD_eq_getElem?_getD, List.getElem?_take_of_lt h]
theorem take_snocF {fs : List FileL} {k : Nat} (h : k < fs.length) : fs.take (k + 1) = fs.take k ++ [fs.getD k noF] := by
  rw [List.take_succ_eq_append_getElem h, List.getD_eq_getElem?_getD, List.getElem?_eq_getElem h]; rfl
end Go.Proofs.YthakibcfmbkpkaaDoor
