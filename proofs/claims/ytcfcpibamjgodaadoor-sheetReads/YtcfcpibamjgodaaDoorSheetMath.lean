/-
  What is shown is guessed: the graph whose text P5.1 says is the one that the lines of this text tell.
-/
import Derived.Test.YtcfcpibamjgodaaDoorGuessWalk
import Derived.Lib.ItoaMem
namespace Go.Proofs.YtcfcpibamjgodaaDoor
set_option maxRecDepth 100000

/-! Digits. -/
theorem dec_digit (u : Nat) : ∀ b ∈ Lib.decDigits u, 48 ≤ b.toNat ∧ b.toNat ≤ 57 := by
  induction u using Nat.strongRecOn with
  | _ u ih =>
    intro b hb
    rw [Lib.decDigits] at hb
    split at hb
    · simp only [List.mem_singleton] at hb
      subst hb
      have : (UInt8.ofNat (48 + u)).toNat = 48 + u := by simp; omega
      omega
    · simp only [List.mem_append, List.mem_singleton] at hb
      rcases hb with hb | hb
      · exact ih (u / 10) (by omega) b hb
      · subst hb
        have : (UInt8.ofNat (48 + u % 10)).toNat = 48 + u % 10 := by simp; omega
        omega
theorem itoa_nat (n : Int) (h : 0 ≤ n) : Lib.itoa n = Lib.decDigits n.toNat := by
  obtain ⟨m, rfl⟩ : ∃ m : Nat, n = m := ⟨n.toNat, by omega⟩
  rw [Lib.itoa_nonneg, Int.toNat_natCast]
theorem dec_not (u : Nat) (c : UInt8) (hc : c.toNat < 48) : c ∉ Lib.decDigits u := by
  intro h
  have := dec_digit u c h
  omega
theorem dec_ne (u : Nat) : Lib.decDigits u ≠ [] := by
  rw [Lib.decDigits]
  split <;> simp

/-! Atoi. -/
theorem parse_snoc (d : UInt8) : ∀ (l : List UInt8) (acc : Nat), Lib.parseUint10 acc (l ++ [d]) = match Lib.parseUint10 acc l with
    | .ok v => Lib.parseUint10 v [d]
    | .«syntax» => .«syntax»
    | .range => .range
  | [], acc => by simp [Lib.parseUint10]
  | c :: r, acc => by
    simp only [List.cons_append, Lib.parseUint10]
    split
    · split
      · rfl
      · split
        · rfl
        · exact parse_snoc d r _
    · rfl
theorem parse_dec (u : Nat) : u < 18446744073709551616 → Lib.parseUint10 0 (Lib.decDigits u) = .ok u := by
  induction u using Nat.strongRecOn with
  | _ u ih =>
    intro hu
    rw [Lib.decDigits]
    split
    · have e : (UInt8.ofNat (48 + u)).toNat = 48 + u := by simp; omega
      simp only [Lib.parseUint10, e]
      rw [if_pos (by omega), if_neg (by omega), if_neg (by omega)]
      congr 1
      omega
    · rw [parse_snoc, ih (u / 10) (by omega) (by omega)]
      have e : (UInt8.ofNat (48 + u % 10)).toNat = 48 + u % 10 := by simp; omega
      simp only [Lib.parseUint10, e]
      rw [if_pos (by omega), if_neg (by omega), if_neg (by omega)]
      congr 1
      omega
theorem atoi_dec (u : Nat) (hu : u < 9223372036854775808) : atoiV (Lib.decDigits u) = u := by
  have hp := parse_dec u (by omega)
  unfold atoiV
  have : Lib.atoiAll (Lib.decDigits u) = .ok (u : Int) := by
    cases hd : Lib.decDigits u with
    | nil => exact absurd hd (dec_ne u)
    | cons c r =>
      have hc := dec_digit u c (by rw [hd]; simp)
      rw [hd] at hp
      have h1 : ¬ (c.toNat = 43 ∨ c.toNat = 45) := by omega
      have h2 : ¬ c.toNat = 45 := by omega
      simp only [Lib.atoiAll, if_neg h1, Lib.parseMag, reduceCtorEq, if_false, hp]
      rw [if_neg (by omega), if_neg (by omega), if_neg h2]
  rw [this]
theorem atoi_itoa (n : Int) (h0 : 0 ≤ n) (h1 : n < 9223372036854775808) : atoiV (Lib.itoa n) = n := by
  rw [itoa_nat n h0, atoi_dec _ (by omega)]
  omega

/-! Searching a byte. -/
theorem index_hit (c : UInt8) (r : List UInt8) : ∀ l : List UInt8, c ∉ l → Lib.index (l ++ c :: r) [c] = l.length
  | [], _ => by simp [Lib.index]
  | b :: l, h => by
    have hb : ¬ c = b := fun e => h (by simp [e])
    have ih := index_hit c r l (fun hc => h (by simp [hc]))
    simp only [List.cons_append, Lib.index, ih]
    have hp : ([c].isPrefixOf (b :: (l ++ c :: r))) = false := by
      show (c == b && _) = false
      rw [beq_eq_false_iff_ne.2 hb]; rfl
    rw [hp]
    simp
theorem index_miss (c : UInt8) : ∀ l : List UInt8, c ∉ l → Lib.index l [c] = -1
  | [], _ => by simp [Lib.index]
  | b :: l, h => by
    have hb : ¬ c = b := fun e => h (by simp [e])
    have ih := index_miss c l (fun hc => h (by simp [hc]))
    simp only [Lib.index, ih]
    have hp : ([c].isPrefixOf (b :: l)) = false := by
      show (c == b && _) = false
      rw [beq_eq_false_iff_ne.2 hb]; rfl
    rw [hp]
    simp

/-! Lines. -/
theorem cut_hit (l r : List UInt8) (h : 10 ∉ l) : Lib.cut (l ++ 10 :: r) [10] = (l, r, true) := by
  unfold Lib.cut
  rw [index_hit 10 r l h, if_pos (by omega)]
  simp
theorem lines_all : ∀ (ls : List (List UInt8)) (k : Nat), ls.length ≤ k → (∀ l ∈ ls, 10 ∉ l) → linesL k (ls.flatMap (· ++ [10])) = ls
  | [], k, _, _ => by cases k <;> simp [linesL]
  | l :: ls, k, hk, h => by
    obtain ⟨k, rfl⟩ : ∃ j, k = j + 1 := ⟨k - 1, by simp at hk; omega⟩
    have e : (l :: ls).flatMap (· ++ [10]) = l ++ 10 :: ls.flatMap (· ++ [10]) := by simp
    rw [e]
    unfold linesL
    rw [if_neg (by simp), cut_hit _ _ (h l (by simp))]
    simp only
    rw [lines_all ls k (by simp at hk; omega) (fun x hx => h x (by simp [hx]))]

/-! Words. -/
theorem split_all : ∀ (w : List UInt8) (ws : List (List UInt8)), (∀ x ∈ w :: ws, 32 ∉ x) → Lib.splitK [32] 0 ws.length (w ++ ws.flatMap (fun x => 32 :: x)) = w :: ws
  | w, [], _ => by simp [Lib.splitK]
  | w, x :: ws, h => by
    have e : (x :: ws).flatMap (fun x => (32 : UInt8) :: x) = 32 :: (x ++ ws.flatMap (fun x => 32 :: x)) := by simp
    rw [e]
    simp only [List.length_cons, Lib.splitK]
    rw [index_hit 32 _ w (h w (by simp))]
    have ih := split_all x ws (fun y hy => h y (by simp at hy ⊢; exact .inr hy))
    rw [if_neg (by simp)]
    simp
    exact ih
theorem count_all : ∀ (w : List UInt8) (ws : List (List UInt8)), (∀ x ∈ w :: ws, 32 ∉ x) → (w ++ ws.flatMap (fun x => (32 : UInt8) :: x)).count 32 = ws.length
  | w, [], h => by simpa [List.count_eq_zero] using h w (by simp)
  | w, x :: ws, h => by
    have ih := count_all x ws (fun y hy => h y (by simp at hy ⊢; exact .inr hy))
    have hw : w.count 32 = 0 := List.count_eq_zero.2 (h w (by simp))
    have e : (x :: ws).flatMap (fun x => (32 : UInt8) :: x) = 32 :: (x ++ ws.flatMap (fun x => 32 :: x)) := by simp
    rw [e, List.count_append, hw, List.count_cons_self, ih]
    simp
theorem words_puts (x : Int) (r : List Int) (h : ∀ y ∈ x :: r, 0 ≤ y) : (wordsB ⟨(putsL (x :: r)).toArray⟩).map (·.data.toList) = (x :: r).map Lib.itoa := by
  have hw : ∀ z ∈ Lib.itoa x :: r.map Lib.itoa, (32 : UInt8) ∉ z := by
    intro z hz
    simp only [List.mem_cons, List.mem_map] at hz
    rcases hz with rfl | ⟨y, hy, rfl⟩
    · rw [itoa_nat x (h x (by simp))]; exact dec_not _ _ (by decide)
    · rw [itoa_nat y (h y (by simp [hy]))]; exact dec_not _ _ (by decide)
  have e : putsL (x :: r) = Lib.itoa x ++ (r.map Lib.itoa).flatMap (fun x => 32 :: x) := by simp [putsL, List.flatMap_map]
  unfold wordsB
  rw [Lib.splitB_data]
  have ec : Lib.countB ⟨(putsL (x :: r)).toArray⟩ ⟨#[32]⟩ = (r.map Lib.itoa).length := by
    show Lib.count (putsL (x :: r)) [32] = _
    rw [Lib.count_one, e, count_all _ _ hw]
  rw [ec]
  show Lib.splitK [32] 0 _ (putsL (x :: r)) = _
  rw [e, split_all _ _ hw]
  rfl
theorem nums_puts (x : Int) (r : List Int) (h : ∀ y ∈ x :: r, 0 ≤ y ∧ y < 9223372036854775808) : numsL ⟨(putsL (x :: r)).toArray⟩ = x :: r := by
  unfold numsL
  have e : (wordsB ⟨(putsL (x :: r)).toArray⟩).map (fun z => atoiV z.data.toList) = ((wordsB ⟨(putsL (x :: r)).toArray⟩).map (·.data.toList)).map atoiV := by rw [List.map_map]; rfl
  rw [e, words_puts x r (fun y hy => (h y hy).1), List.map_map]
  conv => rhs; rw [← List.map_id (x :: r)]
  exact List.map_congr_left fun y hy => atoi_itoa y (h y hy).1 (h y hy).2

/-! The whole. -/
theorem three_all {P : Int → Prop} {a b c : Int} (h1 : P a) (h2 : P b) (h3 : P c) : ∀ y ∈ [a, b, c], P y := by
  intro y hy
  simp only [List.mem_cons, List.mem_nil_iff, or_false] at hy
  rcases hy with rfl | rfl | rfl
  · exact h1
  · exact h2
  · exact h3
theorem puts_no10 (x : Int) (r : List Int) (h : ∀ y ∈ x :: r, 0 ≤ y) : (10 : UInt8) ∉ putsL (x :: r) := by
  intro hm
  simp only [putsL, List.mem_append, List.mem_flatMap, List.mem_cons] at hm
  rcases hm with hm | ⟨y, hy, hm | hm⟩
  · rw [itoa_nat x (h x (by simp))] at hm; exact dec_not _ _ (by decide) hm
  · exact absurd hm (by decide)
  · rw [itoa_nat y (h y (by simp [hy]))] at hm; exact dec_not _ _ (by decide) hm
theorem tell_edges : ∀ (es acc : List Ed) (n : Int), (∀ e ∈ es, (0 ≤ e.1 ∧ e.1 < 9223372036854775808) ∧ (0 ≤ e.2.1 ∧ e.2.1 < 9223372036854775808) ∧ (0 ≤ e.2.2 ∧ e.2.2 < 9223372036854775808)) →
    (es.map (fun e => putsL [e.1, e.2.1, e.2.2])).foldl stepB (n, acc) = (n, acc ++ es)
  | [], acc, n, _ => by simp
  | e :: es, acc, n, h => by
    have he := h e (by simp)
    have hs : stepB (n, acc) (putsL [e.1, e.2.1, e.2.2]) = (n, acc ++ [e]) := by
      unfold stepB
      rw [nums_puts e.1 [e.2.1, e.2.2] (three_all he.1 he.2.1 he.2.2)]
      rfl
    rw [List.map_cons, List.foldl_cons, hs, tell_edges es _ n (fun x hx => h x (by simp [hx]))]
    simp
theorem show_lines (n : Int) (es : List Ed) : showL n es = (putsL [n] :: es.map (fun e => putsL [e.1, e.2.1, e.2.2])).flatMap (· ++ [10]) := by
  simp only [showL, lineL, edgesL, List.flatMap_cons, List.flatMap_map]
/-- What is shown is guessed. -/
theorem guess_show (n : Int) (es : List Ed) (h : faultE n es = 0) : guessF (showL n es) = (n, es) := by
  obtain ⟨h0, h1, _, hin⟩ := fault_ok h
  have hb : ∀ e ∈ es, (0 ≤ e.1 ∧ e.1 < 9223372036854775808) ∧ (0 ≤ e.2.1 ∧ e.2.1 < 9223372036854775808) ∧ (0 ≤ e.2.2 ∧ e.2.2 < 9223372036854775808) := by
    intro e he
    have := in_of_out (hin e he)
    omega
  unfold guessF
  have hl : linesL (showL n es).length (showL n es) = putsL [n] :: es.map (fun e => putsL [e.1, e.2.1, e.2.2]) := by
    conv => lhs; rw [show_lines]
    refine lines_all _ _ ?_ ?_
    · have : ∀ ls : List (List UInt8), ls.length ≤ (ls.flatMap (· ++ [10])).length := by
        intro ls
        induction ls with
        | nil => simp
        | cons l ls ih => simp only [List.flatMap_cons, List.length_append, List.length_cons, List.length_nil]; omega
      exact this _
    · intro l hl
      simp only [List.mem_cons, List.mem_map] at hl
      rcases hl with rfl | ⟨e, he, rfl⟩
      · exact puts_no10 n [] (by intro y hy; simp at hy; subst hy; exact h0)
      · have := hb e he
        exact puts_no10 _ _ (by intro y hy; simp at hy; rcases hy with rfl | rfl | rfl <;> omega)
  rw [hl]
  unfold tellL
  rw [List.foldl_cons]
  have hs : stepB (0, []) (putsL [n]) = (n, []) := by
    unfold stepB
    rw [nums_puts n [] (by intro y hy; simp at hy; subst hy; omega)]
    rfl
  rw [hs, tell_edges es [] n hb]
  simp

/-! How long a text is. -/
theorem dec_short : ∀ (k u : Nat), u < 10 ^ (k + 1) → (Lib.decDigits u).length ≤ k + 1
  | 0, u, h => by
    rw [Lib.decDigits_one (by simpa using h)]
    simp
  | k + 1, u, h => by
    rw [Lib.decDigits]
    split
    · simp
    · have h2 : u / 10 < 10 ^ (k + 1) := by
        rw [Nat.div_lt_iff_lt_mul (by decide)]
        rw [Nat.pow_succ] at h
        exact h
      have := dec_short k (u / 10) h2
      simp only [List.length_append, List.length_cons, List.length_nil]
      omega
theorem itoa_short (k : Nat) (n : Int) (h0 : 0 ≤ n) (h : n.toNat < 10 ^ (k + 1)) : (Lib.itoa n).length ≤ k + 1 := by
  rw [itoa_nat n h0]
  exact dec_short k _ h
theorem edges_short (n : Int) (hn : n ≤ 200) : ∀ es : List Ed, (∀ e ∈ es, outE n e = false) → (edgesL es).length ≤ 22 * es.length
  | [], _ => by simp [edgesL]
  | e :: es, h => by
    have ih := edges_short n hn es fun x hx => h x (by simp [hx])
    have hi := in_of_out (h e (by simp))
    have a1 := itoa_short 2 e.1 (by omega) (show e.1.toNat < 1000 by omega)
    have a2 := itoa_short 2 e.2.1 (by omega) (show e.2.1.toNat < 1000 by omega)
    have a3 := itoa_short 12 e.2.2 (by omega) (show e.2.2.toNat < 10000000000000 by omega)
    have e1 : edgesL (e :: es) = lineL [e.1, e.2.1, e.2.2] ++ edgesL es := by simp [edgesL]
    have e2 : (lineL [e.1, e.2.1, e.2.2]).length = (Lib.itoa e.1).length + (Lib.itoa e.2.1).length + (Lib.itoa e.2.2).length + 3 := by
      simp [lineL, putsL]
      omega
    rw [e1, List.length_append, e2, List.length_cons]
    omega
theorem show_short (n : Int) (es : List Ed) (h : faultE n es = 0) : (showL n es).length ≤ 20000 := by
  obtain ⟨h0, h1, h2, hin⟩ := fault_ok h
  have a1 := edges_short n h1 es hin
  have a2 := itoa_short 2 n h0 (show n.toNat < 1000 by omega)
  have e2 : (lineL [n]).length = (Lib.itoa n).length + 1 := by simp [lineL, putsL]
  rw [showL, List.length_append, e2]
  omega
theorem show_some (n : Int) (es : List Ed) : 0 < (showL n es).length := by
  have e2 : (lineL [n]).length = (Lib.itoa n).length + 1 := by simp [lineL, putsL]
  rw [showL, List.length_append, e2]
  omega
end Go.Proofs.YtcfcpibamjgodaaDoor
