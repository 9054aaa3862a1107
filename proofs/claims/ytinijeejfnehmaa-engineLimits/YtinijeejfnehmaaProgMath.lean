/-
  What a vertex does with its mail, by kinds and phases: what is answered, as functions.
-/
import Derived.Test.YtinijeejfnehmaaTwoMem
import Derived.Test.YtinijeejfnehmaaInWalk
import Derived.Test.YtinijeejfnehmaaLowMath
namespace Go.Proofs.Ytinijeejfnehmaa
set_option maxRecDepth 100000
open Go.ChangeShapes Go.WideShapes Go.ChangeAt Go.RowKit

/-- A kind in one of its phases: is it Strong, and which of the two (Dist or Weak, Forward or Back). -/
abbrev Jb := Bool × Bool
def Jb.k (j : Jb) : Int := if j.1 then 3 else if j.2 then 2 else 1
def Jb.p (j : Jb) : Int := if j.1 && j.2 then 1 else 0
/-- The kind's greatest number. -/
def Jb.top (j : Jb) : Int := if j.1 || j.2 then 199 else 4398046511104
theorem jb_cases {P : Jb → Prop} (h1 : P (false, false)) (h2 : P (false, true)) (h3 : P (true, false)) (h4 : P (true, true)) : ∀ j, P j
  | (false, false) => h1
  | (false, true) => h2
  | (true, false) => h3
  | (true, true) => h4
/-- Is there such a kind, and has it such a phase? -/
def jobF (k p : Int) : Option Jb :=
  if k = 1 ∧ p = 0 then some (false, false) else if k = 2 ∧ p = 0 then some (false, true) else if k = 3 ∧ p = 0 then some (true, false) else if k = 3 ∧ p = 1 then some (true, true) else none
theorem jobF_of : ∀ j : Jb, jobF (Jb.k j) (Jb.p j) = some j := jb_cases rfl rfl rfl rfl
theorem jobF_cases (k p : Int) : (jobF k p = none ∧ ¬ (k = 1 ∧ p = 0) ∧ ¬ (k = 2 ∧ p = 0) ∧ ¬ (k = 3 ∧ p = 0) ∧ ¬ (k = 3 ∧ p = 1)) ∨ ∃ j : Jb, k = Jb.k j ∧ p = Jb.p j := by
  by_cases h1 : k = 1 ∧ p = 0
  · exact .inr ⟨(false, false), h1⟩
  · by_cases h2 : k = 2 ∧ p = 0
    · exact .inr ⟨(false, true), h2⟩
    · by_cases h3 : k = 3 ∧ p = 0
      · exact .inr ⟨(true, false), h3⟩
      · by_cases h4 : k = 3 ∧ p = 1
        · exact .inr ⟨(true, true), h4⟩
        · exact .inl ⟨by unfold jobF; rw [if_neg h1, if_neg h2, if_neg h3, if_neg h4], h1, h2, h3, h4⟩

def labF (x : Ml) (b : Bool) : Ml × Bool := (if b then (x.1, x.1) else x, b)
def lowV (x : Ml) (m : List Int) : Ml × Bool := (((lowF x.1 m).1, x.2), (lowF x.1 m).2)
def hasB (m : List Int) (a : Int) : Bool := m.any fun y => y == a
/-- P11.2 to P11.4, fresh. -/
def beginF (j : Jb) (v s : Int) (x : Ml) : Ml × Bool :=
  match j with
  | (false, false) => if v = s then ((0, -1), true) else ((-1, -1), false)
  | (false, true) => ((v, -1), true)
  | (true, false) => if x.2 = -1 then ((v, -1), true) else (x, false)
  | (true, true) => if x.2 = -1 then labF x (x.1 == v) else (x, false)
/-- P11.2 to P11.4, not fresh. -/
def hearF (j : Jb) (x : Ml) (m : List Int) : Ml × Bool :=
  match j with
  | (false, false) => lowV x m
  | (false, true) => lowV x m
  | (true, false) => if x.2 = -1 then lowV x m else (x, false)
  | (true, true) => if x.2 = -1 then labF x (hasB m x.1) else (x, false)
def valB (j : Jb) (x : Ml) : Bool := inB x.1 (-1) (Jb.top j) && inB x.2 (-1) 199
def mailB (j : Jb) (m : List Int) : Bool := m.all fun y => inB y 0 (Jb.top j)
def wakeV (j : Jb) (v s : Int) (x : Ml) (b : Bool) (m : List Int) : Ml × Bool := if b then beginF j v s x else hearF j x m
/-- What Wake answers: value, whether it says so, error. -/
structure Wk where
  x : Ml
  b : Bool
  f : Int
def wakeJ (j : Jb) (v s : Int) (x : Ml) (b : Bool) (m : List Int) : Wk :=
  if inB v 0 199 && valB j x && mailB j m then ⟨(wakeV j v s x b m).1, (wakeV j v s x b m).2, 0⟩ else ⟨(0, 0), false, 2⟩
def wakeF (k v s : Int) (x : Ml) (p : Int) (b : Bool) (m : List Int) : Wk :=
  match jobF k p with
  | none => ⟨(0, 0), false, 3⟩
  | some j => wakeJ j v s x b m
theorem wakeF_of (j : Jb) (v s : Int) (x : Ml) (b : Bool) (m : List Int) : wakeF (Jb.k j) v s x (Jb.p j) b m = wakeJ j v s x b m := by
  unfold wakeF; rw [jobF_of]
theorem wakeF_none {k v s p : Int} {x : Ml} {b : Bool} {m : List Int} (h : jobF k p = none) : wakeF k v s x p b m = ⟨(0, 0), false, 3⟩ := by
  unfold wakeF; rw [h]
/-- Along a job of a kind: what is said. -/
def sayJ (j : Jb) (a n : Int) : Int :=
  if j.1 || j.2 then a else a + n
def saidJ (j : Jb) (x : Ml) (n : Int) : Int × Int :=
  if valB j x && decide (x.1 ≠ -1) && inB n 0 1099511627776 then (if sayJ j x.1 n ≤ Jb.top j then (sayJ j x.1 n, 0) else (0, 6)) else (0, 2)
def saidF (k : Int) (x : Ml) (p n : Int) : Int × Int :=
  match jobF k p with
  | none => (0, 3)
  | some j => saidJ j x n
theorem saidF_of (j : Jb) (x : Ml) (n : Int) : saidF (Jb.k j) x (Jb.p j) n = saidJ j x n := by unfold saidF; rw [jobF_of]
theorem saidF_none {k p n : Int} {x : Ml} (h : jobF k p = none) : saidF k x p n = (0, 3) := by unfold saidF; rw [h]
def wayJ : Jb → Bool × Bool
  | (false, false) => (true, false)
  | (false, true) => (true, true)
  | (true, false) => (true, false)
  | (true, true) => (false, true)

theorem inB_iff {v a b : Int} : inB v a b = true ↔ a ≤ v ∧ v ≤ b := by simp [inB]
theorem hasB_iff {m : List Int} {a : Int} : hasB m a = true ↔ a ∈ m := by simp [hasB]
theorem mailB_iff {j : Jb} {m : List Int} : mailB j m = true ↔ ∀ y ∈ m, 0 ≤ y ∧ y ≤ Jb.top j := by simp [mailB, inB]

/-- The document's own fold: the least of the mail, -1 for none. -/
def leastS (n m : Int) : Int := if n < 0 ∨ m < n then m else n
def leastF (m : List Int) : Int := m.foldl leastS (-1)
theorem least_nn : ∀ (m : List Int) (n : Int), (∀ y ∈ m, 0 ≤ y) → 0 ≤ n → 0 ≤ m.foldl leastS n
  | [], n, _, h => h
  | y :: m, n, hm, h => by
    refine least_nn m _ (fun z hz => hm z (by simp [hz])) ?_
    unfold leastS
    split
    · exact hm y (by simp)
    · exact h
theorem least_le : ∀ (l : List Int) (c : Int), (∀ z ∈ l, 0 ≤ z) → 0 ≤ c → l.foldl leastS c ≤ c
  | [], c, _, _ => Int.le_refl _
  | z :: l, c, hl, hc => by
    have hl' : ∀ u ∈ l, 0 ≤ u := fun u hu => hl u (by simp [hu])
    rw [List.foldl_cons]
    by_cases e : c < 0 ∨ z < c
    · rw [show leastS c z = z from if_pos e]
      have := least_le l z hl' (hl z (by simp))
      rcases e with e | e <;> omega
    · rw [show leastS c z = c from if_neg e]
      exact least_le l c hl' hc
/-- Below a value that is there the two folds go along together. -/
theorem low_same : ∀ (m : List Int) (n : Int), (∀ y ∈ m, 0 ≤ y) → 0 ≤ n → m.foldl lowS (n, true) = (m.foldl leastS n, true)
  | [], n, _, _ => rfl
  | y :: m, n, hm, hn => by
    have hm' : ∀ z ∈ m, 0 ≤ z := fun z hz => hm z (by simp [hz])
    rw [List.foldl_cons, List.foldl_cons]
    by_cases e : y < n
    · rw [show lowS (n, true) y = (y, true) from if_pos (.inr e), show leastS n y = y from if_pos (.inr e)]
      exact low_same m y hm' (hm y (by simp))
    · rw [show lowS (n, true) y = (n, true) from if_neg (by simp only; omega), show leastS n y = n from if_neg (by omega)]
      exact low_same m n hm' hn
theorem low_least : ∀ (m : List Int) (a n : Int), (∀ y ∈ m, 0 ≤ y) → 0 ≤ a → a ≤ n →
    (m.foldl leastS n < a → m.foldl lowS (a, false) = (m.foldl leastS n, true)) ∧ (a ≤ m.foldl leastS n → m.foldl lowS (a, false) = (a, false))
  | [], a, n, _, _, h => ⟨fun h' => by simp only [List.foldl_nil] at h'; omega, fun _ => rfl⟩
  | y :: m, a, n, hm, ha, h => by
    have hy := hm y (by simp)
    have hm' : ∀ z ∈ m, 0 ≤ z := fun z hz => hm z (by simp [hz])
    rw [List.foldl_cons, List.foldl_cons]
    by_cases e : y < a
    · rw [show lowS (a, false) y = (y, true) from if_pos (.inr e), show leastS n y = y from if_pos (.inr (by omega))]
      have h2 := least_le m y hm' hy
      exact ⟨fun _ => low_same m y hm' hy, fun h' => by omega⟩
    · rw [show lowS (a, false) y = (a, false) from if_neg (by simp only; omega)]
      by_cases e2 : y < n
      · rw [show leastS n y = y from if_pos (.inr e2)]
        exact low_least m a y hm' ha (by omega)
      · rw [show leastS n y = n from if_neg (by omega)]
        exact low_least m a n hm' ha h
/-- What the program makes of mail is what the document says of the least one. -/
theorem low_eq (a : Int) (m : List Int) (ha : -1 ≤ a) (hm : ∀ y ∈ m, 0 ≤ y) :
    (0 ≤ leastF m ∧ (a < 0 ∨ leastF m < a) → lowF a m = (leastF m, true)) ∧ (¬ (0 ≤ leastF m ∧ (a < 0 ∨ leastF m < a)) → lowF a m = (a, false)) := by
  cases m with
  | nil => exact ⟨fun h => absurd h.1 (by decide), fun _ => rfl⟩
  | cons y m =>
    have hy := hm y (by simp)
    have hm' : ∀ z ∈ m, 0 ≤ z := fun z hz => hm z (by simp [hz])
    have hl : leastF (y :: m) = m.foldl leastS y := by
      unfold leastF
      rw [List.foldl_cons, show leastS (-1) y = y from if_pos (.inl (by omega))]
    have h0 := least_nn m y hm' hy
    have h1 := least_le m y hm' hy
    rw [hl]
    unfold lowF
    rw [List.foldl_cons]
    by_cases e : a < 0
    · rw [show lowS (a, false) y = (y, true) from if_pos (.inl (by simp only; omega))]
      exact ⟨fun _ => low_same m y hm' hy, fun h => absurd ⟨h0, .inl e⟩ h⟩
    · by_cases e2 : y < a
      · rw [show lowS (a, false) y = (y, true) from if_pos (.inr e2)]
        exact ⟨fun _ => low_same m y hm' hy, fun h => absurd ⟨h0, .inr (by omega)⟩ h⟩
      · rw [show lowS (a, false) y = (a, false) from if_neg (by simp only; omega)]
        have h2 := low_least m a y hm' (by omega) (by omega)
        exact ⟨fun h => h2.1 (by rcases h.2 with h | h <;> omega), fun h => h2.2 (by
          rcases Int.lt_or_le (m.foldl leastS y) a with h' | h'
          · exact absurd ⟨h0, .inr h'⟩ h
          · exact h')⟩
end Go.Proofs.Ytinijeejfnehmaa
