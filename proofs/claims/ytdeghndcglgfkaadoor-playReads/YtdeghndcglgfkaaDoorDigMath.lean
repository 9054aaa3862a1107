/-
  Decimal digits: what they spell, that Atoi reads them; searching a byte. (Stage 5 has these in SheetMath and NumberMath.)
-/
import Derived.Test.YtdeghndcglgfkaaDoorRowBase
import Derived.Lib.AtoiAll
import Derived.Lib.IndexMore
import Derived.Lib.ItoaNum
import Derived.Lib.Bytealg
import Derived.Lib.ItoaMem
namespace Go.Proofs.YtdeghndcglgfkaaDoor
set_option maxRecDepth 100000

/-- The number that strconv.Atoi hands back, whatever the error beside it. -/
def atoiV (l : List UInt8) : Int := match Lib.atoiAll l with
  | .ok v => v
  | .«syntax» => 0
  | .range => Lib.atoiSat l

/-! Digits. -/
theorem dec_digit (u : Nat) : ∀ b ∈ Lib.decDigits u, 48 ≤ b.toNat ∧ b.toNat ≤ 57 := by
  induction u using Nat.strongRecOn with
  | _ u ih =>
    intro b hb
    rw [Lib.decDigits] at hb
    split at hb
    · simp only [List.mem_singleton] at hb
      subst hb
      have : (UInt8.ofNat (48 + u)).toNat = 48 + u := by simp; omega
      omega
    · simp only [List.mem_append, List.mem_singleton] at hb
      rcases hb with hb | hb
      · exact ih (u / 10) (by omega) b hb
      · subst hb
        have : (UInt8.ofNat (48 + u % 10)).toNat = 48 + u % 10 := by simp; omega
        omega
theorem itoa_nat (n : Int) (h : 0 ≤ n) : Lib.itoa n = Lib.decDigits n.toNat := by
  obtain ⟨m, rfl⟩ : ∃ m : Nat, n = m := ⟨n.toNat, by omega⟩
  rw [Lib.itoa_nonneg, Int.toNat_natCast]
theorem dec_not (u : Nat) (c : UInt8) (hc : c.toNat < 48) : c ∉ Lib.decDigits u := by
  intro h
  have := dec_digit u c h
  omega
theorem dec_ne (u : Nat) : Lib.decDigits u ≠ [] := by
  rw [Lib.decDigits]
  split <;> simp

/-! Atoi. -/
theorem parse_snoc (d : UInt8) : ∀ (l : List UInt8) (acc : Nat), Lib.parseUint10 acc (l ++ [d]) = match Lib.parseUint10 acc l with
    | .ok v => Lib.parseUint10 v [d]
    | .«syntax» => .«syntax»
    | .range => .range
  | [], acc => by simp [Lib.parseUint10]
  | c :: r, acc => by
    simp only [List.cons_append, Lib.parseUint10]
    split
    · split
      · rfl
      · split
        · rfl
        · exact parse_snoc d r _
    · rfl
theorem parse_dec (u : Nat) : u < 18446744073709551616 → Lib.parseUint10 0 (Lib.decDigits u) = .ok u := by
  induction u using Nat.strongRecOn with
  | _ u ih =>
    intro hu
    rw [Lib.decDigits]
    split
    · have e : (UInt8.ofNat (48 + u)).toNat = 48 + u := by simp; omega
      simp only [Lib.parseUint10, e]
      rw [if_pos (by omega), if_neg (by omega), if_neg (by omega)]
      congr 1
      omega
    · rw [parse_snoc, ih (u / 10) (by omega) (by omega)]
      have e : (UInt8.ofNat (48 + u % 10)).toNat = 48 + u % 10 := by simp; omega
      simp only [Lib.parseUint10, e]
      rw [if_pos (by omega), if_neg (by omega), if_neg (by omega)]
      congr 1
      omega
theorem atoi_dec (u : Nat) (hu : u < 9223372036854775808) : atoiV (Lib.decDigits u) = u := by
  have hp := parse_dec u (by omega)
  unfold atoiV
  have : Lib.atoiAll (Lib.decDigits u) = .ok (u : Int) := by
    cases hd : Lib.decDigits u with
    | nil => exact absurd hd (dec_ne u)
    | cons c r =>
      have hc := dec_digit u c (by rw [hd]; simp)
      rw [hd] at hp
      have h1 : ¬ (c.toNat = 43 ∨ c.toNat = 45) := by omega
      have h2 : ¬ c.toNat = 45 := by omega
      simp only [Lib.atoiAll, if_neg h1, Lib.parseMag, reduceCtorEq, if_false, hp]
      rw [if_neg (by omega), if_neg (by omega), if_neg h2]
  rw [this]
theorem atoi_itoa (n : Int) (h0 : 0 ≤ n) (h1 : n < 9223372036854775808) : atoiV (Lib.itoa n) = n := by
  rw [itoa_nat n h0, atoi_dec _ (by omega)]
  omega

/-! Searching a byte. -/
theorem index_hit (c : UInt8) (r : List UInt8) : ∀ l : List UInt8, c ∉ l → Lib.index (l ++ c :: r) [c] = l.length
  | [], _ => by simp [Lib.index]
  | b :: l, h => by
    have hb : ¬ c = b := fun e => h (by simp [e])
    have ih := index_hit c r l (fun hc => h (by simp [hc]))
    simp only [List.cons_append, Lib.index, ih]
    have hp : ([c].isPrefixOf (b :: (l ++ c :: r))) = false := by
      show (c == b && _) = false
      rw [beq_eq_false_iff_ne.2 hb]; rfl
    rw [hp]
    simp
theorem index_miss (c : UInt8) : ∀ l : List UInt8, c ∉ l → Lib.index l [c] = -1
  | [], _ => by simp [Lib.index]
  | b :: l, h => by
    have hb : ¬ c = b := fun e => h (by simp [e])
    have ih := index_miss c l (fun hc => h (by simp [hc]))
    simp only [Lib.index, ih]
    have hp : ([c].isPrefixOf (b :: l)) = false := by
      show (c == b && _) = false
      rw [beq_eq_false_iff_ne.2 hb]; rfl
    rw [hp]
    simp

/-! Lines. -/
theorem cut_hit (l r : List UInt8) (h : 10 ∉ l) : Lib.cut (l ++ 10 :: r) [10] = (l, r, true) := by
  unfold Lib.cut
  rw [index_hit 10 r l h, if_pos (by omega)]
  simp
theorem dec_short : ∀ (k u : Nat), u < 10 ^ (k + 1) → (Lib.decDigits u).length ≤ k + 1
  | 0, u, h => by
    rw [Lib.decDigits_one (by simpa using h)]
    simp
  | k + 1, u, h => by
    rw [Lib.decDigits]
    split
    · simp
    · have h2 : u / 10 < 10 ^ (k + 1) := by
        rw [Nat.div_lt_iff_lt_mul (by decide)]
        rw [Nat.pow_succ] at h
        exact h
      have := dec_short k (u / 10) h2
      simp only [List.length_append, List.length_cons, List.length_nil]
      omega
theorem itoa_short (k : Nat) (n : Int) (h0 : 0 ≤ n) (h : n.toNat < 10 ^ (k + 1)) : (Lib.itoa n).length ≤ k + 1 := by
  rw [itoa_nat n h0]
  exact dec_short k _ h
/-- A digit. -/
def isDig (b : UInt8) : Prop := 48 ≤ b.toNat ∧ b.toNat ≤ 57
/-- What digits spell. -/
def digV (l : List UInt8) : Nat := l.foldl (fun a b => 10 * a + (b.toNat - 48)) 0
theorem val_snoc (l : List UInt8) (d : UInt8) : digV (l ++ [d]) = 10 * digV l + (d.toNat - 48) := by simp [digV]
theorem val_dec (u : Nat) : digV (Lib.decDigits u) = u := by
  induction u using Nat.strongRecOn with
  | _ u ih =>
    rw [Lib.decDigits]
    split
    · have e : (UInt8.ofNat (48 + u)).toNat = 48 + u := by simp; omega
      simp only [digV, List.foldl_cons, List.foldl_nil, e]
      omega
    · rw [val_snoc, ih (u / 10) (by omega)]
      have e : (UInt8.ofNat (48 + u % 10)).toNat = 48 + u % 10 := by simp; omega
      rw [e]
      omega
theorem val_lt : ∀ (k : Nat) (l : List UInt8), l.length = k → (∀ b ∈ l, isDig b) → digV l < 10 ^ k := by
  intro k
  induction k with
  | zero => intro l hl _; rw [List.eq_nil_of_length_eq_zero hl]; decide
  | succ k ih =>
    intro l hl hd
    obtain ⟨l', d, rfl⟩ : ∃ l' d, l = l' ++ [d] := ⟨l.dropLast, l.getLast (by intro e; rw [e] at hl; simp at hl), (List.dropLast_concat_getLast _).symm⟩
    have h1 := ih l' (by simpa using hl) fun b hb => hd b (by simp [hb])
    have h2 := hd d (by simp)
    unfold isDig at h2
    rw [val_snoc, Nat.pow_succ]
    omega
/-- Digits without a nought ahead are the decimal digits of what they spell. -/
theorem dec_val : ∀ (k : Nat) (l : List UInt8), l.length = k + 1 → (∀ b ∈ l, isDig b) → (l.head? ≠ some 48 ∨ k = 0) → Lib.decDigits (digV l) = l ∧ (l.head? ≠ some 48 → 0 < digV l) := by
  intro k
  induction k with
  | zero =>
    intro l hl hd _
    obtain ⟨d, rfl⟩ := List.length_eq_one_iff.1 hl
    have h2 := hd d (by simp)
    unfold isDig at h2
    have e : digV [d] = d.toNat - 48 := by simp [digV]
    refine ⟨?_, fun h => ?_⟩
    · rw [e, Lib.decDigits_one (by omega)]
      congr 1
      apply UInt8.toNat_inj.1
      simp
      omega
    · rw [e]
      rcases Nat.lt_or_ge 48 d.toNat with h3 | h3
      · omega
      · exfalso
        apply h
        have : d = 48 := UInt8.toNat_inj.1 (by show d.toNat = 48; omega)
        simp [this]
  | succ k ih =>
    intro l hl hd hh
    obtain ⟨l', d, rfl⟩ : ∃ l' d, l = l' ++ [d] := ⟨l.dropLast, l.getLast (by intro e; rw [e] at hl; simp at hl), (List.dropLast_concat_getLast _).symm⟩
    have hl' : l'.length = k + 1 := by simpa using hl
    have h2 := hd d (by simp)
    unfold isDig at h2
    have hne : l' ≠ [] := by intro e; rw [e] at hl'; simp at hl'
    have hhd : (l' ++ [d]).head? = l'.head? := by
      cases l' with
      | nil => exact absurd rfl hne
      | cons a r => rfl
    have hh' : l'.head? ≠ some 48 := by
      rw [hhd] at hh
      rcases hh with hh | hh
      · exact hh
      · omega
    obtain ⟨h3, h4⟩ := ih l' hl' (fun b hb => hd b (by simp [hb])) (.inl hh')
    have h5 := h4 hh'
    refine ⟨?_, fun _ => by rw [val_snoc]; omega⟩
    rw [val_snoc]
    rw [Lib.decDigits, dif_neg (by omega)]
    have e1 : (10 * digV l' + (d.toNat - 48)) / 10 = digV l' := by omega
    have e2 : 48 + (10 * digV l' + (d.toNat - 48)) % 10 = d.toNat := by omega
    rw [e1, e2, h3]
    simp
theorem dec_head (u : Nat) (h : 1 < (Lib.decDigits u).length) : (Lib.decDigits u).head? ≠ some 48 := by
  induction u using Nat.strongRecOn with
  | _ u ih =>
    rw [Lib.decDigits] at h ⊢
    split at h
    · simp at h
    · rename_i h10
      rw [dif_neg h10]
      have hne := dec_ne (u / 10)
      have hhd : (Lib.decDigits (u / 10) ++ [UInt8.ofNat (48 + u % 10)]).head? = (Lib.decDigits (u / 10)).head? := by
        cases hd : Lib.decDigits (u / 10) with
        | nil => exact absurd hd hne
        | cons a r => rfl
      rw [hhd]
      by_cases h1 : 1 < (Lib.decDigits (u / 10)).length
      · exact ih (u / 10) (by omega) h1
      · by_cases h100 : u / 10 < 10
        · rw [Lib.decDigits_one h100]
          simp
          intro e
          have := congrArg UInt8.toNat e
          simp at this
          omega
        · exfalso
          apply h1
          rw [Lib.decDigits, dif_neg h100]
          have := List.length_pos_iff.2 (dec_ne (u / 10 / 10))
          simp
          omega
theorem dec_long (u : Nat) (h : 10 ^ 18 ≤ u) : 18 < (Lib.decDigits u).length := by
  rcases Nat.lt_or_ge 18 (Lib.decDigits u).length with h1 | h1
  · exact h1
  · exfalso
    have h2 := val_lt _ _ rfl (fun b hb => dec_digit u b hb)
    rw [val_dec] at h2
    have : 10 ^ (Lib.decDigits u).length ≤ 10 ^ 18 := Nat.pow_le_pow_right (by decide) h1
    omega
end Go.Proofs.YtdeghndcglgfkaaDoor
