/-
  P7.2 in plain mathematics: what part some bytes are, as the program reads them and as the document's own text reads them; both read alike.
-/
import Derived.Test.YtacpicnihgggaaaGapsPlain
import Derived.Test.YtacpicnihgggaaaOwnerMath
import Derived.Test.YtacpicnihgggaaaRowMem
namespace Go.Proofs.Ytacpicnihgggaaa
set_option maxRecDepth 100000

/-- A number of at most m, and the bytes behind it. -/
def numF (m : Int) (l : List Int) : Option (Int × List Int) :=
  if (get l).2.2 = 0 ∧ (get l).1 ≤ m then some ((get l).1, l.drop (get l).2.1) else none
theorem numF_yes {m x : Int} {u : Nat} {l : List Int} (h : get l = (x, u, 0)) (hx : x ≤ m) : numF m l = some (x, l.drop u) := by
  unfold numF; rw [h]; exact if_pos ⟨rfl, hx⟩
theorem numF_big {m x : Int} {u : Nat} {l : List Int} (h : get l = (x, u, 0)) (hx : m < x) : numF m l = none := by
  unfold numF; rw [h]; exact if_neg fun h => by have := h.2; simp only at this; omega
theorem numF_err {m e : Int} {l : List Int} (h : get l = (0, 0, e)) (he : e ≠ 0) : numF m l = none := by
  unfold numF; rw [h]; exact if_neg fun h => he h.1
/-- What a number that is had says. -/
theorem numF_inv {m x : Int} {l r : List Int} (hb : ∀ y ∈ l, 0 ≤ y ∧ y ≤ 255) (h : numF m l = some (x, r)) : 0 ≤ x ∧ x ≤ m ∧ r.length < l.length ∧ ∀ y ∈ r, 0 ≤ y ∧ y ≤ 255 := by
  rcases get_inv hb with ⟨e, he, hne⟩ | ⟨n, t, he, hl, h0, h1⟩
  · rw [numF_err he hne] at h; cases h
  · by_cases hm : n ≤ m
    · rw [numF_yes he hm] at h
      injection h with h
      injection h with h2 h3
      subst h2 h3
      have hp := put_len n
      refine ⟨h0, hm, ?_, fun y hy => hb y (List.mem_of_mem_drop hy)⟩
      rw [List.length_drop]
      have : l.length = (put n).length + t.length := by rw [hl, List.length_append]
      omega
    · rw [numF_big he (by omega)] at h; cases h
theorem numF_put {m n : Int} (t : List Int) (h0 : 0 ≤ n) (h1 : n ≤ m) (h2 : m ≤ 18446744073709551615) : numF m (put n ++ t) = some (n, t) := by
  rw [numF_yes (get_put t h0 (by omega)) h1, List.drop_left]
/-- A lower bound refuses more. -/
theorem numF_less {m m' : Int} (h : m ≤ m') (l : List Int) : numF m l = (numF m' l).filter fun r => decide (r.1 ≤ m) := by
  unfold numF
  by_cases h1 : (get l).2.2 = 0
  · by_cases h2 : (get l).1 ≤ m
    · rw [if_pos ⟨h1, h2⟩, if_pos ⟨h1, by omega⟩, Option.filter_some_pos (by exact decide_eq_true h2)]
    · rw [if_neg fun h => h2 h.2]
      by_cases h3 : (get l).1 ≤ m'
      · rw [if_pos ⟨h1, h3⟩, Option.filter_some_neg (by simpa using h2)]
      · rw [if_neg fun h => h3 h.2]; rfl
  · rw [if_neg fun h => h1 h.1, if_neg fun h => h1 h.1]; rfl

/-- One hop stands ahead of another. -/
def ltH (x y : Hp) : Prop := x.1 < y.1 ∨ (x.1 = y.1 ∧ x.2 < y.2)
/-- The same, told. -/
def ltHb (x y : Hp) : Bool := decide (x.1 < y.1 ∨ (x.1 = y.1 ∧ x.2 < y.2))
theorem ltHb_true {x y : Hp} : ltHb x y = true ↔ ltH x y := by unfold ltHb ltH; exact decide_eq_true_iff
theorem ltHb_false {x y : Hp} : ltHb x y = false ↔ ¬ ltH x y := by unfold ltHb ltH; exact decide_eq_false_iff_not
/-- Hops in order. -/
def SrtH (l : List Hp) : Prop := ∀ i x y, l[i]? = some x → l[i + 1]? = some y → ¬ ltH y x
/-- The same, as the program tells it. -/
def srtB : List Hp → Bool
  | x :: y :: r => !ltHb y x && srtB (y :: r)
  | _ => true
theorem srtB_iff : ∀ l, srtB l = true ↔ SrtH l
  | [] => ⟨fun _ i x y h => by simp at h, fun _ => rfl⟩
  | [x] => ⟨fun _ i x y _ h => by simp at h, fun _ => rfl⟩
  | x :: y :: r => by
    rw [srtB, Bool.and_eq_true, Bool.not_eq_true', ltHb_false, srtB_iff (y :: r)]
    constructor
    · intro h i a b ha hb
      cases i with
      | zero =>
        simp at ha hb
        subst ha hb
        exact h.1
      | succ i => exact h.2 i a b (by simpa using ha) (by simpa using hb)
    · intro h
      exact ⟨h 0 x y rfl rfl, fun i a b ha hb => h (i + 1) a b (by simpa using ha) (by simpa using hb)⟩
theorem SrtH.nil : SrtH [] := fun i x y h => by simp at h
theorem SrtH.left {a b : List Hp} (h : SrtH (a ++ b)) : SrtH a := fun i x y hx hy => by
  have h1 : i < a.length := (List.getElem?_eq_some_iff.1 hx).1
  have h2 : i + 1 < a.length := (List.getElem?_eq_some_iff.1 hy).1
  exact h i x y (by rw [List.getElem?_append_left h1]; exact hx) (by rw [List.getElem?_append_left h2]; exact hy)
theorem SrtH.snoc {a : List Hp} {y : Hp} (h : SrtH a) (hl : ∀ z, a.getLast? = some z → ¬ ltH y z) : SrtH (a ++ [y]) := fun i x z hx hz => by
  have h2 : i + 1 < a.length + 1 := by have := (List.getElem?_eq_some_iff.1 hz).1; simpa using this
  by_cases h3 : i + 1 < a.length
  · rw [List.getElem?_append_left (by omega)] at hx
    rw [List.getElem?_append_left h3] at hz
    exact h i x z hx hz
  · have e : i + 1 = a.length := by omega
    rw [List.getElem?_append_left (by omega)] at hx
    rw [e] at hz
    simp at hz
    subst hz
    refine hl x ?_
    rw [List.getLast?_eq_getElem?, show a.length - 1 = i by omega]
    exact hx
theorem SrtH.last {a : List Hp} {y z : Hp} (h : SrtH (a ++ [y])) (hz : a.getLast? = some z) : ¬ ltH y z := by
  rw [List.getLast?_eq_getElem?] at hz
  have hn : a.length - 1 < a.length := (List.getElem?_eq_some_iff.1 hz).1
  refine h (a.length - 1) z y (by rw [List.getElem?_append_left hn]; exact hz) ?_
  rw [show a.length - 1 + 1 = a.length by omega]; simp

/-- The program: to each vertex its weight. -/
def wtsC (n : Int) : List Int → List Hp → List Int → Option (List Hp × List Int)
  | [], a, l => some (a, l)
  | t :: ts, a, l => if t < n then (match numF 1099511627776 l with | some (x, r) => wtsC n ts (a ++ [(t, x)]) r | none => none) else none
theorem wtsC_out {n t : Int} {ts : List Int} {a : List Hp} {l : List Int} (h : ¬ t < n) : wtsC n (t :: ts) a l = none := by rw [wtsC, if_neg h]
theorem wtsC_no {n t : Int} {ts : List Int} {a : List Hp} {l : List Int} (h : numF 1099511627776 l = none) : wtsC n (t :: ts) a l = none := by
  rw [wtsC, h]; split <;> rfl
theorem wtsC_yes {n t x : Int} {ts : List Int} {a : List Hp} {l r : List Int} (h : t < n) (hn : numF 1099511627776 l = some (x, r)) : wtsC n (t :: ts) a l = wtsC n ts (a ++ [(t, x)]) r := by
  rw [wtsC, if_pos h, hn]
theorem wtsC_len {n : Int} : ∀ {ts : List Int} {a : List Hp} {l : List Int} {p : List Hp × List Int}, wtsC n ts a l = some p → p.1.length = a.length + ts.length ∧ (∃ b, p.1 = a ++ b)
  | [], a, l, p, h => by
    rw [wtsC] at h
    injection h with h
    subst h
    exact ⟨by simp, [], by simp⟩
  | t :: ts, a, l, p, h => by
    by_cases ht : t < n
    · cases hn : numF 1099511627776 l with
      | none => rw [wtsC_no hn] at h; cases h
      | some q =>
        obtain ⟨x, r⟩ := q
        rw [wtsC_yes ht hn] at h
        obtain ⟨h1, b, h2⟩ := wtsC_len h
        exact ⟨by rw [h1, List.length_append, List.length_cons]; simp; omega, (t, x) :: b, by rw [h2]; simp⟩
    · rw [wtsC_out ht] at h; cases h
/-- The document: the same, each hop held against the one ahead of it. -/
def okP (a : List Hp) (t x : Int) : Bool := match a.getLast? with | some z => !(z.1 == t && decide (x < z.2)) | none => true
def wtsQ (n : Int) : List Int → List Hp → List Int → Option (List Hp × List Int)
  | [], a, l => some (a, l)
  | t :: ts, a, l => match numF 1099511627776 l with | some (x, r) => (if t < n then (if okP a t x then wtsQ n ts (a ++ [(t, x)]) r else none) else none) | none => none
theorem wtsQ_no {n t : Int} {ts : List Int} {a : List Hp} {l : List Int} (h : numF 1099511627776 l = none) : wtsQ n (t :: ts) a l = none := by rw [wtsQ, h]
theorem wtsQ_out {n t : Int} {ts : List Int} {a : List Hp} {l : List Int} (h : ¬ t < n) : wtsQ n (t :: ts) a l = none := by
  rw [wtsQ]
  split
  · rw [if_neg h]
  · rfl
theorem wtsQ_bad {n t x : Int} {ts : List Int} {a : List Hp} {l r : List Int} (hn : numF 1099511627776 l = some (x, r)) (h : okP a t x = false) : wtsQ n (t :: ts) a l = none := by
  rw [wtsQ, hn]
  simp only
  rw [h]
  split <;> rfl
theorem wtsQ_yes {n t x : Int} {ts : List Int} {a : List Hp} {l r : List Int} (h : t < n) (hn : numF 1099511627776 l = some (x, r)) (hp : okP a t x = true) : wtsQ n (t :: ts) a l = wtsQ n ts (a ++ [(t, x)]) r := by
  rw [wtsQ, hn]
  simp only
  rw [if_pos h, if_pos hp]
/-- Behind these hops the vertices go on rising. -/
def GoesOn (a : List Hp) (ts : List Int) : Prop := ∀ z t, a.getLast? = some z → ts.head? = some t → z.1 ≤ t
theorem okP_lt {a : List Hp} {t x : Int} (h : ∀ z, a.getLast? = some z → z.1 ≤ t) : okP a t x = true ↔ ∀ z, a.getLast? = some z → ¬ ltH (t, x) z := by
  unfold okP
  cases hz : a.getLast? with
  | none => simp
  | some z =>
    have := h z hz
    simp only [Bool.not_eq_true', Bool.and_eq_false_imp, beq_iff_eq, decide_eq_false_iff_not, Option.some.injEq, forall_eq']
    unfold ltH
    simp only
    constructor
    · intro h1; omega
    · intro h1 h2; omega
theorem rises_tail {t : Int} {ts : List Int} (h : Rises (t :: ts)) : Rises ts := fun i hi => by
  have := h (i + 1) (by simpa using hi)
  simpa using this
theorem rises_head {t s : Int} {ts : List Int} (h : Rises (t :: ts)) (hs : ts.head? = some s) : t ≤ s := by
  cases ts with
  | nil => simp at hs
  | cons y ys =>
    simp at hs
    subst hs
    have := h 0 (by simp)
    simpa using this
theorem wts_eq {n : Int} : ∀ (ts : List Int) (a : List Hp) (l : List Int), SrtH a → GoesOn a ts → Rises ts → wtsQ n ts a l = (wtsC n ts a l).filter fun p => srtB p.1
  | [], a, l, hs, _, _ => by
    rw [wtsQ, wtsC, Option.filter_some_pos (by exact (srtB_iff a).2 hs)]
  | t :: ts, a, l, hs, hg, hr => by
    by_cases ht : t < n
    · cases hn : numF 1099511627776 l with
      | none => rw [wtsQ_no hn, wtsC_no hn]; rfl
      | some q =>
        obtain ⟨x, r⟩ := q
        rw [wtsC_yes ht hn]
        cases hp : okP a t x
        · rw [wtsQ_bad hn hp]
          cases hw : wtsC n ts (a ++ [(t, x)]) r with
          | none => rfl
          | some p =>
            obtain ⟨_, b, hb⟩ := wtsC_len hw
            have : srtB p.1 = false := by
              rw [Bool.eq_false_iff]
              intro h1
              rw [srtB_iff, hb] at h1
              have h2 := h1.left
              have : okP a t x = true := (okP_lt fun z hz => hg z t hz rfl).2 fun z hz => h2.last hz
              rw [hp] at this
              cases this
            rw [Option.filter_some_neg (by simp [this])]
        · rw [wtsQ_yes ht hn hp]
          have hl := (okP_lt fun z hz => hg z t hz rfl).1 hp
          refine wts_eq ts (a ++ [(t, x)]) r (hs.snoc hl) ?_ (rises_tail hr)
          intro z s hz hs
          simp at hz
          subst hz
          exact rises_head hr hs
    · rw [wtsQ_out ht, wtsC_out ht]; rfl

/-- P7.2: hops, and the bytes behind them, as the program reads them. -/
def hopsC (n : Int) (l : List Int) : Option (List Hp × List Int) :=
  if (ungap l).2.2 = 0 then (wtsC n (ungap l).1 [] (l.drop (ungap l).2.1)).filter fun p => srtB p.1 else none
/-- And as the document does. -/
def hopsQ (n : Int) (l : List Int) : Option (List Hp × List Int) :=
  if (ungap l).2.2 = 0 ∧ (ungap l).1.length ≤ 600 then wtsQ n (ungap l).1 [] (l.drop (ungap l).2.1) else none
theorem named_rises {l : List Int} (h : Named l 0) : AllIn l ∧ Rises l ∧ l.length ≤ 2000 := by
  rcases h with h | h | h | ⟨_, h1, h2, h3⟩
  · omega
  · omega
  · omega
  · exact ⟨h2, h3, h1⟩
theorem wtsC_bytes {n : Int} : ∀ {ts : List Int} {a : List Hp} {l : List Int} {p : List Hp × List Int}, (∀ y ∈ l, 0 ≤ y ∧ y ≤ 255) → wtsC n ts a l = some p → (∀ y ∈ p.2, 0 ≤ y ∧ y ≤ 255) ∧ p.2.length ≤ l.length
  | [], a, l, p, hb, h => by
    rw [wtsC] at h
    injection h with h
    subst h
    exact ⟨hb, Nat.le_refl _⟩
  | t :: ts, a, l, p, hb, h => by
    by_cases ht : t < n
    · cases hn : numF 1099511627776 l with
      | none => rw [wtsC_no hn] at h; cases h
      | some q =>
        obtain ⟨x, r⟩ := q
        rw [wtsC_yes ht hn] at h
        obtain ⟨_, _, h3, h4⟩ := numF_inv hb hn
        obtain ⟨h5, h6⟩ := wtsC_bytes h4 h
        exact ⟨h5, by omega⟩
    · rw [wtsC_out ht] at h; cases h
theorem hopsC_bytes {n : Int} {l : List Int} {p : List Hp × List Int} (hb : ∀ y ∈ l, 0 ≤ y ∧ y ≤ 255) (h : hopsC n l = some p) : (∀ y ∈ p.2, 0 ≤ y ∧ y ≤ 255) ∧ p.1.length ≤ 2000 := by
  unfold hopsC at h
  rcases ungap_inv hb with ⟨e, he, hne⟩ | ⟨x, k, he, hN, _⟩
  · rw [he, if_neg (by exact hne)] at h; cases h
  · rw [he, if_pos rfl, Option.filter_eq_some_iff] at h
    have h1 := wtsC_bytes (fun y hy => hb y (List.mem_of_mem_drop hy)) h.1
    have h2 := (wtsC_len h.1).1
    have h3 := (named_rises hN).2.2
    exact ⟨h1.1, by rw [h2]; simpa using h3⟩
theorem hops_eq {n : Int} {l : List Int} (hb : ∀ y ∈ l, 0 ≤ y ∧ y ≤ 255) : hopsQ n l = (hopsC n l).filter fun p => decide (p.1.length ≤ 600) := by
  unfold hopsC hopsQ
  rcases ungap_inv hb with ⟨e, he, hne⟩ | ⟨x, k, he, hN, _⟩
  · rw [he, if_neg (fun h => hne h.1), if_neg (by exact hne)]; rfl
  · rw [he]
    simp only [true_and, if_true]
    rw [wts_eq x [] _ SrtH.nil (fun z t h => by simp at h) (named_rises hN).2.1]
    cases hw : wtsC n x [] (l.drop k) with
    | none => simp
    | some p =>
      have hl := (wtsC_len hw).1
      simp only [List.length_nil, Nat.zero_add] at hl
      by_cases h6 : x.length ≤ 600
      · rw [if_pos h6]
        cases hs : srtB p.1
        · rw [Option.filter_some_neg (by simp [hs])]; rfl
        · rw [Option.filter_some_pos (by exact hs), Option.filter_some_pos (by simp only [hl]; exact decide_eq_true h6)]
      · rw [if_neg h6]
        cases hs : srtB p.1
        · rw [Option.filter_some_neg (by simp [hs])]; rfl
        · rw [Option.filter_some_pos (by exact hs), Option.filter_some_neg (by simp only [hl]; simpa using h6)]

/-- How many hops in all. -/
def sumL (f : List (List Hp)) : Nat := (f.map List.length).sum
theorem sumL_snoc (f : List (List Hp)) (l : List Hp) : sumL (f ++ [l]) = sumL f + l.length := by simp [sumL]
/-- The hops of so many vertices: the program, the document. -/
def partsC (n : Int) : Nat → List (List Hp) → List (List Hp) → List Int → Option (List (List Hp) × List (List Hp) × List Int)
  | 0, os, is, l => some (os, is, l)
  | m + 1, os, is, l => (hopsC n l).bind fun p => (hopsC n p.2).bind fun q => partsC n m (os ++ [p.1]) (is ++ [q.1]) q.2
def partsQ (n : Int) : Nat → List (List Hp) → List (List Hp) → List Int → Option (List (List Hp) × List (List Hp) × List Int)
  | 0, os, is, l => some (os, is, l)
  | m + 1, os, is, l => (hopsQ n l).bind fun p => (hopsQ n p.2).bind fun q => partsQ n m (os ++ [p.1]) (is ++ [q.1]) q.2
theorem partsC_sums {n : Int} : ∀ {m : Nat} {os is : List (List Hp)} {l : List Int} {r : List (List Hp) × List (List Hp) × List Int}, partsC n m os is l = some r → sumL os ≤ sumL r.1 ∧ sumL is ≤ sumL r.2.1 ∧ r.1.length = os.length + m ∧ r.2.1.length = is.length + m
  | 0, os, is, l, r, h => by
    rw [partsC] at h
    injection h with h
    subst h
    exact ⟨Nat.le_refl _, Nat.le_refl _, by simp, by simp⟩
  | m + 1, os, is, l, r, h => by
    rw [partsC, Option.bind_eq_some_iff] at h
    obtain ⟨p, _, h⟩ := h
    rw [Option.bind_eq_some_iff] at h
    obtain ⟨q, _, h⟩ := h
    obtain ⟨h1, h2, h3, h4⟩ := partsC_sums h
    rw [sumL_snoc] at h1 h2
    rw [List.length_append] at h3 h4
    simp at h3 h4
    exact ⟨by omega, by omega, by omega, by omega⟩
/-- Not too many hops. -/
def fewB (r : List (List Hp) × List (List Hp) × List Int) : Bool := decide (sumL r.1 ≤ 600) && decide (sumL r.2.1 ≤ 600)
theorem parts_eq {n : Int} : ∀ (m : Nat) (os is : List (List Hp)) (l : List Int), (∀ y ∈ l, 0 ≤ y ∧ y ≤ 255) → (partsQ n m os is l).filter fewB = (partsC n m os is l).filter fewB
  | 0, os, is, l, _ => rfl
  | m + 1, os, is, l, hb => by
    rw [partsQ, partsC, hops_eq hb]
    cases hp : hopsC n l with
    | none => rfl
    | some p =>
      obtain ⟨hb2, _⟩ := hopsC_bytes hb hp
      rw [Option.bind_some]
      by_cases h6 : p.1.length ≤ 600
      · rw [Option.filter_some_pos (by simpa using h6), Option.bind_some, hops_eq hb2]
        cases hq : hopsC n p.2 with
        | none => rfl
        | some q =>
          obtain ⟨hb3, _⟩ := hopsC_bytes hb2 hq
          rw [Option.bind_some]
          by_cases h7 : q.1.length ≤ 600
          · rw [Option.filter_some_pos (by simpa using h7), Option.bind_some]
            exact parts_eq m _ _ _ hb3
          · rw [Option.filter_some_neg (by simpa using h7), Option.bind_none]
            cases hr : partsC n m (os ++ [p.1]) (is ++ [q.1]) q.2 with
            | none => rfl
            | some r =>
              have h8 := (partsC_sums hr).2.1
              rw [sumL_snoc] at h8
              have : fewB r = false := by
                unfold fewB
                rw [Bool.and_eq_false_iff]
                exact .inr (decide_eq_false (by omega))
              rw [Option.filter_some_neg (by simp [this]), Option.filter_none]
      · rw [Option.filter_some_neg (by simpa using h6), Option.bind_none]
        cases hr : (hopsC n p.2).bind fun q => partsC n m (os ++ [p.1]) (is ++ [q.1]) q.2 with
        | none => rfl
        | some r =>
          rw [Option.bind_eq_some_iff] at hr
          obtain ⟨q, _, hr⟩ := hr
          have h8 := (partsC_sums hr).1
          rw [sumL_snoc] at h8
          have : fewB r = false := by
            unfold fewB
            rw [Bool.and_eq_false_iff]
            exact .inl (decide_eq_false (by omega))
          rw [Option.filter_some_neg (by simp [this]), Option.filter_none]

/-- A part: worker, workers, vertices, hops forward, hops back. -/
structure PartL where
  wk : Int
  ks : Int
  n : Int
  out : List (List Hp)
  inn : List (List Hp)
def noP : PartL := ⟨0, 0, 0, [], []⟩
/-- The whole payload: the program. -/
def bodyC (w k n : Int) (l : List Int) : Option PartL :=
  ((partsC n (mineL w.toNat n.toNat k.toNat).length [] [] l).filter fewB).bind fun r => if r.2.2 = [] then some ⟨w, k, n, r.1, r.2.1⟩ else none
def payC (l : List Int) : Option PartL :=
  (numF 1099511627776 l).bind fun a => (numF 1099511627776 a.2).bind fun b => (numF 1099511627776 b.2).bind fun c => if errO a.1 b.1 c.1 b.1 = 0 then bodyC a.1 b.1 c.1 c.2 else none
/-- The document. -/
def bodyQ (w k n : Int) (l : List Int) : Option PartL :=
  ((partsQ n (mineL w.toNat n.toNat k.toNat).length [] [] l).filter fewB).bind fun r => if r.2.2 = [] then some ⟨w, k, n, r.1, r.2.1⟩ else none
def payQ (l : List Int) : Option PartL :=
  (numF 7 l).bind fun a => (numF 8 a.2).bind fun b => (numF 200 b.2).bind fun c => if a.1 < b.1 then bodyQ a.1 b.1 c.1 c.2 else none
theorem body_eq {w k n : Int} {l : List Int} (hb : ∀ y ∈ l, 0 ≤ y ∧ y ≤ 255) : bodyQ w k n l = bodyC w k n l := by
  unfold bodyQ bodyC
  rw [parts_eq _ _ _ _ hb]
theorem pay_eq {l : List Int} (hb : ∀ y ∈ l, 0 ≤ y ∧ y ≤ 255) : payQ l = payC l := by
  unfold payQ payC
  rw [numF_less (m := 7) (m' := 1099511627776) (by decide)]
  cases ha : numF 1099511627776 l with
  | none => rfl
  | some a =>
    obtain ⟨a, r⟩ := a
    obtain ⟨a0, _, _, hb2⟩ := numF_inv hb ha
    rw [Option.bind_some]
    simp only
    by_cases a7 : a ≤ 7
    · rw [Option.filter_some_pos (by simpa using a7), Option.bind_some]
      simp only
      rw [numF_less (m := 8) (m' := 1099511627776) (by decide)]
      cases hk : numF 1099511627776 r with
      | none => rfl
      | some k =>
        obtain ⟨k, s⟩ := k
        obtain ⟨k0, _, _, hb3⟩ := numF_inv hb2 hk
        rw [Option.bind_some]
        simp only
        by_cases k8 : k ≤ 8
        · rw [Option.filter_some_pos (by simpa using k8), Option.bind_some]
          simp only
          rw [numF_less (m := 200) (m' := 1099511627776) (by decide)]
          cases hn : numF 1099511627776 s with
          | none => rfl
          | some n =>
            obtain ⟨n, t⟩ := n
            obtain ⟨n0, _, _, hb4⟩ := numF_inv hb3 hn
            rw [Option.bind_some]
            simp only
            by_cases n2 : n ≤ 200
            · rw [Option.filter_some_pos (by simpa using n2), Option.bind_some]
              simp only
              by_cases hak : a < k
              · rw [if_pos hak, if_pos (errO_ok (by omega) (by omega)), body_eq hb4]
              · rw [if_neg hak, if_neg]
                intro h
                have := errO_inv h
                omega
            · rw [Option.filter_some_neg (by simpa using n2), Option.bind_none, if_neg]
              intro h
              have := errO_inv h
              omega
        · rw [Option.filter_some_neg (by simpa using k8), Option.bind_none]
          symm
          rw [Option.bind_eq_none_iff]
          intro c _
          rw [if_neg]
          intro h
          have := errO_inv h
          omega
    · rw [Option.filter_some_neg (by simpa using a7), Option.bind_none]
      symm
      rw [Option.bind_eq_none_iff]
      intro b _
      rw [Option.bind_eq_none_iff]
      intro c _
      rw [if_neg]
      intro h
      have := errO_inv h
      omega
end Go.Proofs.Ytacpicnihgggaaa
