/-
  A number that ends at a byte, as the document's own number reads it: digits, without noughts ahead.
-/
import Derived.Test.YtcfcpibamjgodaaDoorSheetMath
namespace Go.Proofs.YtcfcpibamjgodaaDoor
set_option maxRecDepth 100000

/-- A digit. -/
def isDig (b : UInt8) : Prop := 48 ≤ b.toNat ∧ b.toNat ≤ 57
/-- What digits spell. -/
def valL (l : List UInt8) : Nat := l.foldl (fun a b => 10 * a + (b.toNat - 48)) 0
theorem val_snoc (l : List UInt8) (d : UInt8) : valL (l ++ [d]) = 10 * valL l + (d.toNat - 48) := by simp [valL]
theorem val_dec (u : Nat) : valL (Lib.decDigits u) = u := by
  induction u using Nat.strongRecOn with
  | _ u ih =>
    rw [Lib.decDigits]
    split
    · have e : (UInt8.ofNat (48 + u)).toNat = 48 + u := by simp; omega
      simp only [valL, List.foldl_cons, List.foldl_nil, e]
      omega
    · rw [val_snoc, ih (u / 10) (by omega)]
      have e : (UInt8.ofNat (48 + u % 10)).toNat = 48 + u % 10 := by simp; omega
      rw [e]
      omega
theorem val_lt : ∀ (k : Nat) (l : List UInt8), l.length = k → (∀ b ∈ l, isDig b) → valL l < 10 ^ k := by
  intro k
  induction k with
  | zero => intro l hl _; rw [List.eq_nil_of_length_eq_zero hl]; decide
  | succ k ih =>
    intro l hl hd
    obtain ⟨l', d, rfl⟩ : ∃ l' d, l = l' ++ [d] := ⟨l.dropLast, l.getLast (by intro e; rw [e] at hl; simp at hl), (List.dropLast_concat_getLast _).symm⟩
    have h1 := ih l' (by simpa using hl) fun b hb => hd b (by simp [hb])
    have h2 := hd d (by simp)
    unfold isDig at h2
    rw [val_snoc, Nat.pow_succ]
    omega
/-- Digits without a nought ahead are the decimal digits of what they spell. -/
theorem dec_val : ∀ (k : Nat) (l : List UInt8), l.length = k + 1 → (∀ b ∈ l, isDig b) → (l.head? ≠ some 48 ∨ k = 0) → Lib.decDigits (valL l) = l ∧ (l.head? ≠ some 48 → 0 < valL l) := by
  intro k
  induction k with
  | zero =>
    intro l hl hd _
    obtain ⟨d, rfl⟩ := List.length_eq_one_iff.1 hl
    have h2 := hd d (by simp)
    unfold isDig at h2
    have e : valL [d] = d.toNat - 48 := by simp [valL]
    refine ⟨?_, fun h => ?_⟩
    · rw [e, Lib.decDigits_one (by omega)]
      congr 1
      apply UInt8.toNat_inj.1
      simp
      omega
    · rw [e]
      rcases Nat.lt_or_ge 48 d.toNat with h3 | h3
      · omega
      · exfalso
        apply h
        have : d = 48 := UInt8.toNat_inj.1 (by show d.toNat = 48; omega)
        simp [this]
  | succ k ih =>
    intro l hl hd hh
    obtain ⟨l', d, rfl⟩ : ∃ l' d, l = l' ++ [d] := ⟨l.dropLast, l.getLast (by intro e; rw [e] at hl; simp at hl), (List.dropLast_concat_getLast _).symm⟩
    have hl' : l'.length = k + 1 := by simpa using hl
    have h2 := hd d (by simp)
    unfold isDig at h2
    have hne : l' ≠ [] := by intro e; rw [e] at hl'; simp at hl'
    have hhd : (l' ++ [d]).head? = l'.head? := by
      cases l' with
      | nil => exact absurd rfl hne
      | cons a r => rfl
    have hh' : l'.head? ≠ some 48 := by
      rw [hhd] at hh
      rcases hh with hh | hh
      · exact hh
      · omega
    obtain ⟨h3, h4⟩ := ih l' hl' (fun b hb => hd b (by simp [hb])) (.inl hh')
    have h5 := h4 hh'
    refine ⟨?_, fun _ => by rw [val_snoc]; omega⟩
    rw [val_snoc]
    rw [Lib.decDigits, dif_neg (by omega)]
    have e1 : (10 * valL l' + (d.toNat - 48)) / 10 = valL l' := by omega
    have e2 : 48 + (10 * valL l' + (d.toNat - 48)) % 10 = d.toNat := by omega
    rw [e1, e2, h3]
    simp
theorem dec_head (u : Nat) (h : 1 < (Lib.decDigits u).length) : (Lib.decDigits u).head? ≠ some 48 := by
  induction u using Nat.strongRecOn with
  | _ u ih =>
    rw [Lib.decDigits] at h ⊢
    split at h
    · simp at h
    · rename_i h10
      rw [dif_neg h10]
      have hne := dec_ne (u / 10)
      have hhd : (Lib.decDigits (u / 10) ++ [UInt8.ofNat (48 + u % 10)]).head? = (Lib.decDigits (u / 10)).head? := by
        cases hd : Lib.decDigits (u / 10) with
        | nil => exact absurd hd hne
        | cons a r => rfl
      rw [hhd]
      by_cases h1 : 1 < (Lib.decDigits (u / 10)).length
      · exact ih (u / 10) (by omega) h1
      · by_cases h100 : u / 10 < 10
        · rw [Lib.decDigits_one h100]
          simp
          intro e
          have := congrArg UInt8.toNat e
          simp at this
          omega
        · exfalso
          apply h1
          rw [Lib.decDigits, dif_neg h100]
          have := List.length_pos_iff.2 (dec_ne (u / 10 / 10))
          simp
          omega
theorem dec_long (u : Nat) (h : 10 ^ 18 ≤ u) : 18 < (Lib.decDigits u).length := by
  rcases Nat.lt_or_ge 18 (Lib.decDigits u).length with h1 | h1
  · exact h1
  · exfalso
    have h2 := val_lt _ _ rfl (fun b hb => dec_digit u b hb)
    rw [val_dec] at h2
    have : 10 ^ (Lib.decDigits u).length ≤ 10 ^ 18 := Nat.pow_le_pow_right (by decide) h1
    omega
/-- A number that ends at e is told in one way. -/
theorem dec_uniq {e : UInt8} (he : ¬ isDig e) : ∀ (a b r q : List UInt8), (∀ x ∈ a, isDig x) → (∀ x ∈ b, isDig x) → a ++ e :: r = b ++ e :: q → a = b ∧ r = q
  | [], [], r, q, _, _, h => by simpa using h
  | [], y :: b, r, q, _, hb, h => by
    simp at h
    exact absurd (hb y (by simp)) (by rw [← h.1]; exact he)
  | x :: a, [], r, q, ha, _, h => by
    simp at h
    exact absurd (ha x (by simp)) (by rw [h.1]; exact he)
  | x :: a, y :: b, r, q, ha, hb, h => by
    simp only [List.cons_append, List.cons.injEq] at h
    obtain ⟨h1, h2⟩ := dec_uniq he a b r q (fun z hz => ha z (by simp [hz])) (fun z hz => hb z (by simp [hz])) h.2
    exact ⟨by rw [h.1, h1], h2⟩

/-- What number answers: the number and the place behind its end; or that there is none. -/
def NumP (L : List UInt8) (i : Nat) (e : UInt8) (n j : Int) : Prop :=
  (∃ m k : Nat, n = m ∧ j = k ∧ m < 10 ^ 18 ∧ i < k ∧ k ≤ L.length ∧ L.drop i = Lib.decDigits m ++ e :: L.drop k) ∨
  (n = 0 ∧ j = -1 ∧ ∀ (m : Nat) (r : List UInt8), m < 10 ^ 18 → L.drop i ≠ Lib.decDigits m ++ e :: r)

section
variable {X : List UInt8} {k : Nat} {e : UInt8}
theorem at_lt {dm r : List UInt8} {j : Nat} (hX : X = dm ++ e :: r) (hj : j < dm.length) : X[j]? = dm[j]? := by rw [hX, List.getElem?_append_left hj]
theorem at_eq {dm r : List UInt8} (hX : X = dm ++ e :: r) : X[dm.length]? = some e := by rw [hX, List.getElem?_append_right (Nat.le_refl _)]; simp
theorem nm_ge {dm r : List UInt8} (he : ¬ isDig e) (hd : ∀ b ∈ X.take k, isDig b) (hX : X = dm ++ e :: r) : k ≤ dm.length := by
  rcases Nat.lt_or_ge dm.length k with h | h
  · exfalso
    apply he
    apply hd
    have h1 : (X.take k)[dm.length]? = some e := by rw [List.getElem?_take_of_lt h]; exact at_eq hX
    exact List.mem_of_getElem? h1
  · exact h
theorem nm_dig {u : Nat} {r : List UInt8} {b : UInt8} {j : Nat} (hX : X = Lib.decDigits u ++ e :: r) (hj : j < (Lib.decDigits u).length) (hb : X[j]? = some b) : isDig b := by
  rw [at_lt hX hj] at hb
  exact dec_digit u b (List.mem_of_getElem? hb)
/-- No number: the text ends. -/
theorem no_end (he : ¬ isDig e) (hd : ∀ b ∈ X.take k, isDig b) (hl : X.length = k) : ∀ (m : Nat) (r : List UInt8), m < 10 ^ 18 → X ≠ Lib.decDigits m ++ e :: r := by
  intro m r _ hX
  have h1 := nm_ge he hd hX
  have h2 := congrArg List.length hX
  simp at h2
  omega
/-- No number: another byte stands there. -/
theorem no_byte {b : UInt8} (he : ¬ isDig e) (hd : ∀ b ∈ X.take k, isDig b) (hb : X[k]? = some b) (hbe : b ≠ e) (hbd : ¬ isDig b) : ∀ (m : Nat) (r : List UInt8), m < 10 ^ 18 → X ≠ Lib.decDigits m ++ e :: r := by
  intro m r _ hX
  have h1 := nm_ge he hd hX
  rcases Nat.lt_or_ge k (Lib.decDigits m).length with h | h
  · exact hbd (nm_dig hX h hb)
  · have h2 : (Lib.decDigits m).length = k := by omega
    have h3 := at_eq hX
    rw [h2, hb] at h3
    exact hbe (by simpa using h3)
/-- No number: too many digits. -/
theorem no_long {b : UInt8} (he : ¬ isDig e) (hd : ∀ b ∈ X.take k, isDig b) (hb : X[k]? = some b) (hbe : b ≠ e) (hk : 18 ≤ k) : ∀ (m : Nat) (r : List UInt8), m < 10 ^ 18 → X ≠ Lib.decDigits m ++ e :: r := by
  intro m r hm hX
  have h1 := nm_ge he hd hX
  have h2 := dec_short 17 m hm
  have h3 := at_eq hX
  rw [show (Lib.decDigits m).length = k by omega, hb] at h3
  exact hbe (by simpa using h3)
/-- No number: none at all, or a nought ahead. -/
theorem no_zero (he : ¬ isDig e) (hd : ∀ b ∈ X.take k, isDig b) (hb : X[k]? = some e) (hz : k = 0 ∨ (1 < k ∧ X[0]? = some 48)) : ∀ (m : Nat) (r : List UInt8), m < 10 ^ 18 → X ≠ Lib.decDigits m ++ e :: r := by
  intro m r _ hX
  have h1 := nm_ge he hd hX
  have h4 : (Lib.decDigits m).length = k := by
    rcases Nat.lt_or_ge k (Lib.decDigits m).length with h | h
    · exact absurd (nm_dig hX h hb) he
    · omega
  rcases hz with h0 | ⟨hk, h48⟩
  · exact dec_ne m (List.eq_nil_of_length_eq_zero (by omega))
  · refine dec_head m (by omega) ?_
    rw [List.head?_eq_getElem?, ← at_lt hX (by omega)]
    exact h48
/-- A number. -/
theorem yes_num (hd : ∀ b ∈ X.take k, isDig b) (hk : 0 < k) (h18 : k ≤ 18) (hb : X[k]? = some e) (hz : X[0]? ≠ some 48 ∨ k = 1) : valL (X.take k) < 10 ^ 18 ∧ X = Lib.decDigits (valL (X.take k)) ++ e :: X.drop (k + 1) := by
  have hkl : k < X.length := (List.getElem?_eq_some_iff.1 hb).1
  have hl : (X.take k).length = k := by simp; omega
  have h1 := val_lt k _ hl hd
  have h2 : 10 ^ k ≤ 10 ^ 18 := Nat.pow_le_pow_right (by decide) h18
  have hh : (X.take k).head? = X[0]? := by
    rw [List.head?_eq_getElem?, List.getElem?_take_of_lt hk]
  have h3 := (dec_val (k - 1) (X.take k) (by omega) hd (by
    rw [hh]
    rcases hz with h | h
    · exact .inl h
    · exact .inr (by omega))).1
  refine ⟨by omega, ?_⟩
  rw [h3]
  have h5 : X.drop k = e :: X.drop (k + 1) := by
    have := List.drop_eq_getElem_cons hkl
    rw [this]
    congr 1
    rw [List.getElem?_eq_getElem hkl] at hb
    simpa using hb
  rw [← h5, List.take_append_drop]
end
end Go.Proofs.YtcfcpibamjgodaaDoor
