/-
  The words of a line, and which line a move has (P17.1, P17.2), as the document's own reading finds it.
-/
import Derived.Test.YtdeghndcglgfkaaDoorRefBig
namespace Go.Proofs.YtdeghndcglgfkaaDoor
set_option maxRecDepth 100000

/-- The words of a line: what stands between blanks. -/
def spl : List UInt8 → List (List UInt8)
  | [] => [[]]
  | c :: r => if c = 32 then [] :: spl r else match spl r with
    | [] => [[c]]
    | h :: t => (c :: h) :: t
theorem spl_ne : ∀ l, spl l ≠ []
  | [] => by simp [spl]
  | c :: r => by
    unfold spl
    split
    · simp
    · split <;> simp
theorem spl_no : ∀ a : List UInt8, 32 ∉ a → spl a = [a]
  | [], _ => rfl
  | c :: r, h => by
    unfold spl
    rw [if_neg (fun e => h (by simp [e])), spl_no r (fun e => h (by simp [e]))]
theorem spl_cut (r : List UInt8) : ∀ a : List UInt8, 32 ∉ a → spl (a ++ 32 :: r) = a :: spl r
  | [], _ => by simp [spl]
  | c :: a, h => by
    have ih := spl_cut r a (fun e => h (by simp [e]))
    rw [List.cons_append]
    conv => lhs; unfold spl
    rw [if_neg (fun e => h (by simp [e])), ih]
/-- Words with a blank between two of them. -/
def joinW : List (List UInt8) → List UInt8
  | [] => []
  | [w] => w
  | w :: v :: r => w ++ 32 :: joinW (v :: r)
theorem spl_join : ∀ l, joinW (spl l) = l
  | [] => rfl
  | c :: r => by
    have ih := spl_join r
    unfold spl
    split
    · rename_i hc
      cases hs : spl r with
      | nil => exact absurd hs (spl_ne r)
      | cons h t =>
        rw [hs] at ih
        simp only [joinW, List.nil_append, ih, hc]
    · cases hs : spl r with
      | nil => exact absurd hs (spl_ne r)
      | cons h t =>
        rw [hs] at ih
        cases t with
        | nil => simp only [joinW] at ih ⊢; rw [ih]
        | cons h2 t2 => simp only [joinW] at ih ⊢; rw [List.cons_append, ih]
/-- The words of a move's line. -/
def wrdM (f : Fm) (a b : Int) : List (List UInt8) := f.2.1 :: ((if 0 < f.2.2 then [Lib.itoa a] else []) ++ (if 1 < f.2.2 then [Lib.itoa b] else []))
theorem spl_line {m : Mv} {f : Fm} (h : plE m = 0) (hf : findK m.1 = some f) : spl (plS m) = wrdM f m.2.1 m.2.2 := by
  obtain ⟨f', hf', hm, hk, h1, h2⟩ := plE_ok h
  rw [hf] at hf'
  cases hf'
  obtain ⟨w32, _, _, _, hj, _⟩ := forms_all f hm
  have n1 : (32 : UInt8) ∉ Lib.itoa m.2.1 := itoa_no h1.1 (by decide)
  have n2 : (32 : UInt8) ∉ Lib.itoa m.2.2 := itoa_no h2.1 (by decide)
  unfold plS wrdM
  rw [hf]
  simp only
  obtain j0 | j1 | j2 : f.2.2 = 0 ∨ f.2.2 = 1 ∨ f.2.2 = 2 := by omega
  · rw [j0]
    simp only [plP, Nat.lt_irrefl, if_false, List.append_nil, Nat.not_lt_zero]
    exact spl_no _ w32
  · rw [j1]
    simp only [plP, Nat.lt_irrefl, if_false, List.append_nil, Nat.zero_lt_one, if_true]
    rw [spl_cut _ _ w32, spl_no _ n1]
  · rw [j2]
    simp only [plP, Nat.one_lt_two, Nat.zero_lt_two, if_true, List.append_assoc, List.cons_append]
    rw [spl_cut _ _ w32, spl_cut _ _ n1, spl_no _ n2]
    rfl
/-- What the document's moveOf answers of a line without its line feed. -/
def MvP (l : List UInt8) (r : Mv) : Prop := (plE r = 0 ∧ plS r = l) ∨ (r = (0, 0, 0) ∧ ∀ m : Mv, plE m = 0 → plS m ≠ l)
/-- A form that fits the words. -/
def fitF (ws : List (List UInt8)) (f : Fm) : Prop := ws[0]? = some f.2.1 ∧ ws.length = f.2.2 + 1
theorem fit_line {m : Mv} {f : Fm} (h : plE m = 0) (hf : findK m.1 = some f) {l : List UInt8} (hl : plS m = l) : fitF (spl l) f := by
  have e := spl_line h hf
  rw [hl] at e
  obtain ⟨f', hf', hm, _⟩ := plE_ok h
  rw [hf] at hf'
  cases hf'
  obtain ⟨_, _, _, _, hj, _⟩ := forms_all f hm
  rw [e]
  refine ⟨rfl, ?_⟩
  unfold wrdM
  obtain j0 | j1 | j2 : f.2.2 = 0 ∨ f.2.2 = 1 ∨ f.2.2 = 2 := by omega
  · rw [j0]; rfl
  · rw [j1]; rfl
  · rw [j2]; rfl
theorem word_one {f g : Fm} (hf : f ∈ formsL) (hg : g ∈ formsL) (h : f.2.1 = g.2.1) : f = g := by
  have h1 := forms_all f hf
  have h2 := forms_all g hg
  have e : f.1 = g.1 := by rw [← h1.2.2.1, ← h2.2.2.1, h]
  have h3 := h1.2.2.2.1
  rw [e, h2.2.2.2.1] at h3
  exact (Option.some.inj h3).symm
/-- No form fits. -/
theorem mv_none {l : List UInt8} (h : ∀ f ∈ formsL, ¬ fitF (spl l) f) : MvP l (0, 0, 0) := by
  refine .inr ⟨rfl, fun m hm e => ?_⟩
  obtain ⟨f, hf, hfm, _⟩ := plE_ok hm
  exact h f hfm (fit_line hm hf e)
/-- A form fits, but a word that should be a number is none. -/
theorem mv_bad {l : List UInt8} {f : Fm} (hf : f ∈ formsL) (h : fitF (spl l) f)
    (hb : (∃ x, 0 < f.2.2 ∧ (spl l)[1]? = some x ∧ ∀ m : Nat, m ≤ 1152921504606846976 → x ≠ Lib.decDigits m) ∨ (∃ x, 1 < f.2.2 ∧ (spl l)[2]? = some x ∧ ∀ m : Nat, m ≤ 1152921504606846976 → x ≠ Lib.decDigits m)) : MvP l (0, 0, 0) := by
  refine .inr ⟨rfl, fun m hm e => ?_⟩
  obtain ⟨g, hg, hgm, _, h1, h2⟩ := plE_ok hm
  have hw := (fit_line hm hg e).1
  have : f = g := word_one hf hgm (by rw [h.1] at hw; exact Option.some.inj hw)
  subst this
  have es := spl_line hm hg
  rw [e] at es
  rcases hb with ⟨x, hj, hx, hno⟩ | ⟨x, hj, hx, hno⟩
  · rw [es, wrdM, if_pos hj] at hx
    have : Lib.itoa m.2.1 = x := by simpa using hx
    exact hno m.2.1.toNat (by omega) (by rw [← this, itoa_nat _ h1.1])
  · rw [es, wrdM, if_pos (by omega), if_pos hj] at hx
    have : Lib.itoa m.2.2 = x := by simpa using hx
    exact hno m.2.2.toNat (by omega) (by rw [← this, itoa_nat _ h2.1])
theorem mv_zero {l : List UInt8} {f : Fm} (hf : f ∈ formsL) (h : fitF (spl l) f) (hj : f.2.2 = 0) : MvP l (f.1, 0, 0) := by
  have hk := (forms_all f hf).2.2.2.1
  refine .inl ⟨plE_yes (f := f) hk ⟨by simp, by simp, fun _ => rfl⟩ ⟨by simp, by simp, fun _ => rfl⟩, ?_⟩
  have hj2 := spl_join l
  unfold plS
  rw [show findK (f.1, (0 : Int), (0 : Int)).1 = some f from hk]
  simp only [plP, hj, Nat.lt_irrefl, if_false, List.append_nil, Nat.not_lt_zero]
  obtain ⟨h1, h2⟩ := h
  rw [hj] at h2
  obtain ⟨w, hw⟩ := List.length_eq_one_iff.1 h2
  rw [hw] at h1 hj2
  have : w = f.2.1 := by simpa using h1
  rw [← this]
  exact hj2
theorem mv_one {l : List UInt8} {f : Fm} {x : List UInt8} {a : Nat} (hf : f ∈ formsL) (h : fitF (spl l) f) (hj : f.2.2 = 1) (hx : (spl l)[1]? = some x) (ha : a ≤ 1152921504606846976) (hxa : x = Lib.decDigits a) : MvP l (f.1, (a : Int), 0) := by
  have hk := (forms_all f hf).2.2.2.1
  refine .inl ⟨plE_yes (f := f) hk ⟨by simp, by simp only; omega, fun e => by omega⟩ ⟨by simp, by simp, fun _ => rfl⟩, ?_⟩
  have hj2 := spl_join l
  unfold plS
  rw [show findK (f.1, (a : Int), (0 : Int)).1 = some f from hk]
  simp only [plP, hj, Nat.lt_irrefl, if_false, List.append_nil, Nat.zero_lt_one, if_true]
  obtain ⟨h1, h2⟩ := h
  rw [hj] at h2
  match hs : spl l, h2 with
  | [w, v], _ =>
    rw [hs] at h1 hx hj2
    have e1 : w = f.2.1 := by simpa using h1
    have e2 : v = x := by simpa using hx
    rw [← hj2, ← e1, Lib.itoa_nonneg, ← hxa, ← e2]
    rfl
theorem mv_two {l : List UInt8} {f : Fm} {x y : List UInt8} {a b : Nat} (hf : f ∈ formsL) (h : fitF (spl l) f) (hj : f.2.2 = 2) (hx : (spl l)[1]? = some x) (hy : (spl l)[2]? = some y) (ha : a ≤ 1152921504606846976) (hxa : x = Lib.decDigits a) (hb : b ≤ 1152921504606846976) (hyb : y = Lib.decDigits b) : MvP l (f.1, (a : Int), (b : Int)) := by
  have hk := (forms_all f hf).2.2.2.1
  refine .inl ⟨plE_yes (f := f) hk ⟨by simp, by simp only; omega, fun e => by omega⟩ ⟨by simp, by simp only; omega, fun e => by omega⟩, ?_⟩
  have hj2 := spl_join l
  unfold plS
  rw [show findK (f.1, (a : Int), (b : Int)).1 = some f from hk]
  simp only [plP, hj, Nat.one_lt_two, Nat.zero_lt_two, if_true]
  obtain ⟨h1, h2⟩ := h
  rw [hj] at h2
  match hs : spl l, h2 with
  | [w, v, u], _ =>
    rw [hs] at h1 hx hy hj2
    have e1 : w = f.2.1 := by simpa using h1
    have e2 : v = x := by simpa using hx
    have e3 : u = y := by simpa using hy
    rw [← hj2, ← e1, Lib.itoa_nonneg, Lib.itoa_nonneg, ← hxa, ← hyb, ← e2, ← e3]
    simp [joinW]
/-- The words' loop: one word more. -/
theorem spl_step {L : List UInt8} {fr i : Nat} {P : List (List UInt8)} (hf : fr ≤ i) (hi : L[i]? = some 32) (hP : spl L = P ++ spl (L.drop fr)) (hno : 32 ∉ (L.drop fr).take (i - fr)) :
    spl L = (P ++ [(L.drop fr).take (i - fr)]) ++ spl (L.drop (i + 1)) := by
  have hlt : i < L.length := (List.getElem?_eq_some_iff.1 hi).1
  have e : L.drop fr = (L.drop fr).take (i - fr) ++ 32 :: L.drop (i + 1) := by
    have e1 : (L.drop fr).drop (i - fr) = L.drop i := by rw [List.drop_drop]; congr 1; omega
    have e2 : L.drop i = 32 :: L.drop (i + 1) := by
      rw [List.drop_eq_getElem_cons hlt]
      congr 1
      rw [List.getElem?_eq_getElem hlt] at hi
      exact Option.some.inj hi
    rw [← e2, ← e1, List.take_append_drop]
  rw [hP]
  conv => lhs; rw [e]
  rw [spl_cut _ _ hno]
  simp
theorem spl_last {L : List UInt8} {fr i : Nat} {P : List (List UInt8)} (hi : L.length = i) (hP : spl L = P ++ spl (L.drop fr)) (hno : 32 ∉ (L.drop fr).take (i - fr)) :
    spl L = P ++ [(L.drop fr).take (i - fr)] := by
  have e : (L.drop fr).take (i - fr) = L.drop fr := List.take_of_length_le (by simp; omega)
  rw [e] at hno ⊢
  rw [hP, spl_no _ hno]
theorem take_more {L : List UInt8} {fr i : Nat} {b : UInt8} (hf : fr ≤ i) (hi : L[i]? = some b) (hb : b ≠ 32) (hno : 32 ∉ (L.drop fr).take (i - fr)) : 32 ∉ (L.drop fr).take (i + 1 - fr) := by
  have e : (L.drop fr)[i - fr]? = some b := by rw [List.getElem?_drop, show fr + (i - fr) = i by omega]; exact hi
  rw [show i + 1 - fr = i - fr + 1 by omega, List.take_add_one, e]
  simp only [Option.toList_some, List.mem_append, List.mem_singleton, not_or]
  exact ⟨hno, fun h => hb h.symm⟩
end Go.Proofs.YtdeghndcglgfkaaDoor
