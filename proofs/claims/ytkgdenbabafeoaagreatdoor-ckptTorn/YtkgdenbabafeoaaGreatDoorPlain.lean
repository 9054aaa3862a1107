/-
  Plain mathematics of P1.1 and P1.2 (no program): the bytes of a number, the number of bytes, and that each undoes the other.
-/
import Derived.Test.YtkgdenbabafeoaaGreatDoorBase
namespace Go.Proofs.YtkgdenbabafeoaaGreatDoor
set_option maxRecDepth 100000

/-- The bytes of a number, with so many steps to come. -/
def putL : Nat → Int → List Int
  | 0, n => [n]
  | f + 1, n => if n < 128 then [n] else (n % 128 + 128) :: putL f (n / 128)
/-- P1.1 -/
def put (n : Int) : List Int := putL 9 n

theorem p128 (f : Nat) : (128 : Int) ^ (f + 1) = 128 * 128 ^ f := by rw [Int.pow_succ, Int.mul_comm]
theorem pos128 (f : Nat) : (0 : Int) < 128 ^ f := Int.pow_pos (by decide)
theorem div128_lt {n m : Int} (h : n < 128 * m) : n / 128 < m := by omega

theorem putL_step : ∀ (f : Nat) (n : Int), 0 ≤ n → n < 128 ^ (f + 1) → putL f n = putL (f + 1) n
  | 0, n, h0, h => by
    have h' : n < 128 := by simpa using h
    simp [putL, h']
  | f + 1, n, h0, h => by
    have h2 : n / 128 < 128 ^ (f + 1) := div128_lt (by rw [p128] at h; exact h)
    have ih := putL_step f (n / 128) (by omega) h2
    show (if n < 128 then [n] else (n % 128 + 128) :: putL f (n / 128)) = (if n < 128 then [n] else (n % 128 + 128) :: putL (f + 1) (n / 128))
    rw [ih]

theorem put_small {n : Int} (h : n < 128) : put n = [n] := by simp [put, putL, h]
theorem put_big {n : Int} (h : 128 ≤ n) (h1 : n ≤ 18446744073709551615) : put n = (n % 128 + 128) :: put (n / 128) := by
  have e : putL 8 (n / 128) = putL 9 (n / 128) := putL_step 8 (n / 128) (by omega) (by
    have : (128 : Int) ^ (8 + 1) = 9223372036854775808 := by decide
    rw [this]; omega)
  show (if n < 128 then [n] else (n % 128 + 128) :: putL 8 (n / 128)) = _
  rw [if_neg (by omega), e]; rfl

theorem putL_bytes : ∀ (f : Nat) (n : Int), 0 ≤ n → n < 128 ^ (f + 1) → ∀ x ∈ putL f n, 0 ≤ x ∧ x ≤ 255
  | 0, n, h0, h, x, hx => by
    have h' : n < 128 := by simpa using h
    simp [putL] at hx; omega
  | f + 1, n, h0, h, x, hx => by
    by_cases hn : n < 128
    · simp [putL, hn] at hx; omega
    · simp only [putL, if_neg hn, List.mem_cons] at hx
      rcases hx with hx | hx
      · omega
      · exact putL_bytes f (n / 128) (by omega) (div128_lt (by rw [p128] at h; exact h)) x hx
theorem lt_128_10 {n : Int} (h : n ≤ 18446744073709551615) : n < 128 ^ (9 + 1) := by
  have : (128 : Int) ^ (9 + 1) = 1180591620717411303424 := by decide
  rw [this]; omega
theorem put_bytes {n : Int} (h0 : 0 ≤ n) (h1 : n ≤ 18446744073709551615) : ∀ x ∈ put n, 0 ≤ x ∧ x ≤ 255 := putL_bytes 9 n h0 (lt_128_10 h1)

theorem putL_len : ∀ (f : Nat) (n : Int), 1 ≤ (putL f n).length ∧ (putL f n).length ≤ f + 1
  | 0, n => by simp [putL]
  | f + 1, n => by
    have := putL_len f (n / 128)
    by_cases hn : n < 128
    · simp [putL, hn]
    · simp only [putL, if_neg hn, List.length_cons]; omega
theorem put_len (n : Int) : 1 ≤ (put n).length ∧ (put n).length ≤ 10 := putL_len 9 n

/-- P1.2, byte by byte: i bytes are behind us, and they made the number n. -/
def getR (i : Nat) (n : Int) : List Int → Int × Nat × Int
  | [] => (0, 0, 4)
  | x :: r => if i = 9 ∧ 1 < x then (0, 0, 6) else if 128 ≤ x then getR (i + 1) (n + x % 128 * 128 ^ i) r else if x = 0 ∧ 0 < i then (0, 0, 3) else (n + x % 128 * 128 ^ i, i + 1, 0)
def get (l : List Int) : Int × Nat × Int := getR 0 0 l

/-- The number that so many bytes make, seven bits each, the lowest first. -/
def val : List Int → Int
  | [] => 0
  | x :: r => x % 128 + 128 * val r
theorem val_nonneg : ∀ l : List Int, 0 ≤ val l
  | [] => by simp [val]
  | x :: r => by have := val_nonneg r; simp only [val]; omega
theorem val_lt : ∀ l : List Int, val l < 128 ^ l.length
  | [] => by simp [val]
  | x :: r => by have := val_lt r; rw [List.length_cons, p128]; simp only [val]; omega
theorem val_snoc : ∀ (l : List Int) (x : Int), val (l ++ [x]) = val l + x % 128 * 128 ^ l.length
  | [], x => by simp [val]
  | y :: r, x => by
    have ih := val_snoc r x
    rw [List.cons_append, List.length_cons, p128]
    simp only [val]
    rw [ih, Int.mul_left_comm]
    omega
theorem val_drop : ∀ (j : Nat) (l : List Int), val (l.drop j) ≤ val l
  | 0, l => by simp
  | j + 1, [] => by simp
  | j + 1, x :: r => by have := val_drop j r; have := val_nonneg r; simp only [List.drop_succ_cons, val]; omega
theorem drop_step {xs : List Int} {k : Nat} (hk : k < xs.length) : xs.drop k = xs.getD k 0 :: xs.drop (k + 1) := by
  rw [List.drop_eq_getElem_cons hk, List.getD_eq_getElem?_getD, List.getElem?_eq_getElem hk]; rfl

theorem p128_le (j : Nat) (h : j ≤ 9) : (128 : Int) ^ j ≤ 9223372036854775808 := by
  have : j = 0 ∨ j = 1 ∨ j = 2 ∨ j = 3 ∨ j = 4 ∨ j = 5 ∨ j = 6 ∨ j = 7 ∨ j = 8 ∨ j = 9 := by omega
  rcases this with rfl | rfl | rfl | rfl | rfl | rfl | rfl | rfl | rfl | rfl <;> decide
/-- Behind k bytes that go on. -/
theorem get_at (xs : List Int) : ∀ k : Nat, k ≤ 9 → k ≤ xs.length → (∀ i, i < k → 128 ≤ xs.getD i 0) → get xs = getR k (val (xs.take k)) (xs.drop k)
  | 0, _, _, _ => by simp [get, val]
  | k + 1, h9, hl, h => by
    have ih := get_at xs k (by omega) (by omega) (fun i hi => h i (by omega))
    have hk := h k (by omega)
    rw [ih, drop_step (by omega), getR, if_neg (by omega), if_pos hk, take_snocI (by omega), val_snoc, List.length_take_of_le (by omega)]
theorem get_over (xs : List Int) (hl : 9 < xs.length) (h : ∀ i, i < 9 → 128 ≤ xs.getD i 0) (h1 : 1 < xs.getD 9 0) : get xs = (0, 0, 6) := by
  rw [get_at xs 9 (by omega) (by omega) h, drop_step hl, getR, if_pos ⟨rfl, h1⟩]
theorem get_short (xs : List Int) (hl : xs.length ≤ 9) (h : ∀ i, i < xs.length → 128 ≤ xs.getD i 0) : get xs = (0, 0, 4) := by
  rw [get_at xs xs.length hl (Nat.le_refl _) h, List.drop_eq_nil_of_le (Nat.le_refl _), getR]
theorem get_form (xs : List Int) (k : Nat) (hk : k ≤ 9) (h0 : 0 < k) (hl : k < xs.length) (h : ∀ i, i < k → 128 ≤ xs.getD i 0) (hz : xs.getD k 0 = 0) : get xs = (0, 0, 3) := by
  rw [get_at xs k hk (by omega) h, drop_step hl, hz, getR, if_neg (by omega), if_neg (by omega), if_pos ⟨rfl, h0⟩]
theorem get_ok (xs : List Int) (k : Nat) (hk : k ≤ 9) (hl : k < xs.length) (h : ∀ i, i < k → 128 ≤ xs.getD i 0) (h9 : k = 9 → xs.getD k 0 ≤ 1) (hp : 0 ≤ xs.getD k 0) (hs : xs.getD k 0 < 128) (hz : ¬ (xs.getD k 0 = 0 ∧ 0 < k)) :
    get xs = (val (xs.take (k + 1)), k + 1, 0) ∧ 0 ≤ val (xs.take (k + 1)) ∧ val (xs.take (k + 1)) ≤ 18446744073709551615 := by
  refine ⟨?_, val_nonneg _, ?_⟩
  · rw [get_at xs k hk (by omega) h, drop_step hl, getR, if_neg (by omega), if_neg (by omega), if_neg hz, take_snocI hl, val_snoc, List.length_take_of_le (by omega)]
  · by_cases h8 : k = 9
    · have hx := h9 h8
      have hv := val_lt (xs.take k)
      rw [take_snocI hl, val_snoc, List.length_take_of_le (by omega)]
      rw [List.length_take_of_le (by omega)] at hv
      rw [h8] at hv hx ⊢
      have e : (128 : Int) ^ 9 = 9223372036854775808 := by decide
      rw [e] at hv ⊢
      rw [h8] at hp
      omega
    · have hv := val_lt (xs.take (k + 1))
      rw [List.length_take_of_le (by omega)] at hv
      have e := p128_le (k + 1) (by omega)
      omega


/-- A greater number has no fewer bytes. -/
theorem putL_mono : ∀ (f : Nat) (a b : Int), 0 ≤ a → a ≤ b → (putL f a).length ≤ (putL f b).length
  | 0, a, b, _, _ => by simp [putL]
  | f + 1, a, b, h0, h => by
    have ih := putL_mono f (a / 128) (b / 128) (by omega) (by omega)
    have hl := putL_len f (b / 128)
    by_cases ha : a < 128
    · by_cases hb : b < 128
      · simp [putL, ha, hb]
      · simp only [putL, if_pos ha, if_neg hb, List.length_cons, List.length_nil]; omega
    · simp only [putL, if_neg ha, if_neg (show ¬ b < 128 by omega), List.length_cons]; omega
theorem put_mono {a b : Int} (h0 : 0 ≤ a) (h : a ≤ b) : (put a).length ≤ (put b).length := putL_mono 9 a b h0 h

/-- What is put is got, whatever stands behind it. -/
theorem getR_putL (t : List Int) : ∀ (f i : Nat) (n acc : Int), i + f = 9 → 0 ≤ n → n < 2 * 128 ^ f → (0 < i → 0 < n) → getR i acc (putL f n ++ t) = (acc + n * 128 ^ i, i + (putL f n).length, 0)
  | 0, i, n, acc, hi, h0, h1, hp => by
    have e : i = 9 := by omega
    have h1' : n < 2 := by simpa using h1
    have hn : n = 1 := by have := hp (by omega); omega
    subst e hn
    simp [putL, getR]
  | f + 1, i, n, acc, hi, h0, h1, hp => by
    by_cases h : n < 128
    · simp only [putL, if_pos h, List.cons_append, List.nil_append, getR]
      rw [if_neg (by omega), if_neg (by omega), if_neg (by omega)]
      have e : n % 128 = n := by omega
      rw [e]; rfl
    · have ih := getR_putL t f (i + 1) (n / 128) (acc + (n % 128 + 128) % 128 * 128 ^ i) (by omega) (by omega) (by rw [p128] at h1; omega) (by omega)
      simp only [putL, if_neg h, List.cons_append, getR]
      rw [if_neg (by omega), if_pos (by omega), ih, p128, List.length_cons]
      have e1 : (n % 128 + 128) % 128 = n % 128 := by omega
      have e2 : n / 128 * (128 * 128 ^ i) = 128 * (n / 128) * 128 ^ i := by rw [Int.mul_left_comm, Int.mul_assoc]
      have e3 : n * 128 ^ i = (n % 128 + 128 * (n / 128)) * 128 ^ i := by rw [Int.emod_add_mul_ediv]
      rw [e1, e2, e3, Int.add_mul]
      refine Prod.ext ?_ (Prod.ext ?_ rfl)
      · show acc + n % 128 * 128 ^ i + _ = _; omega
      · show i + 1 + _ = i + (_ + 1); omega
theorem get_put {n : Int} (t : List Int) (h0 : 0 ≤ n) (h1 : n ≤ 18446744073709551615) : get (put n ++ t) = (n, (put n).length, 0) := by
  have e : (2 : Int) * 128 ^ 9 = 18446744073709551616 := by decide
  have := getR_putL t 9 0 n 0 rfl h0 (by rw [e]; omega) (by omega)
  rw [get, put, this]; simp


/-- What is got was put so. -/
theorem getR_inv : ∀ (xs : List Int) (i : Nat) (acc : Int), (∀ x ∈ xs, 0 ≤ x ∧ x ≤ 255) → i ≤ 9 →
    (∃ e, getR i acc xs = (0, 0, e) ∧ e ≠ 0) ∨ ∃ (m : Int) (r : List Int), getR i acc xs = (acc + m * 128 ^ i, i + (putL (9 - i) m).length, 0) ∧ xs = putL (9 - i) m ++ r ∧ 0 ≤ m ∧ m < 2 * 128 ^ (9 - i) ∧ (0 < i → 0 < m)
  | [], i, acc, _, _ => .inl ⟨4, rfl, by decide⟩
  | x :: r, i, acc, hx, hi => by
    have hb := hx x (by simp)
    by_cases h9 : i = 9 ∧ 1 < x
    · exact .inl ⟨6, by rw [getR, if_pos h9], by decide⟩
    · by_cases hm : 128 ≤ x
      · have hi8 : i ≤ 8 := by omega
        have ih := getR_inv r (i + 1) (acc + x % 128 * 128 ^ i) (fun y hy => hx y (by simp [hy])) (by omega)
        have e : getR i acc (x :: r) = getR (i + 1) (acc + x % 128 * 128 ^ i) r := by rw [getR, if_neg h9, if_pos hm]
        rw [e]
        rcases ih with ih | ⟨m, q, h1, h2, h3, h4, h5⟩
        · exact .inl ih
        · refine .inr ⟨x % 128 + 128 * m, q, ?_, ?_, by omega, ?_, fun _ => by have := h5 (by omega); omega⟩
          all_goals have h5' := h5 (by omega)
          all_goals have hf : 9 - i = (9 - (i + 1)) + 1 := by omega
          all_goals generalize 9 - (i + 1) = f at *
          · have hp : (putL (9 - i) (x % 128 + 128 * m)).length = 1 + (putL f m).length := by
              rw [hf]; simp only [putL]; rw [if_neg (by omega), List.length_cons, show (x % 128 + 128 * m) / 128 = m from by omega]; omega
            rw [h1, hp, p128]
            have e2 : m * (128 * 128 ^ i) = 128 * m * 128 ^ i := by rw [Int.mul_left_comm, Int.mul_assoc]
            refine Prod.ext ?_ (Prod.ext ?_ rfl)
            · show acc + x % 128 * 128 ^ i + m * (128 * 128 ^ i) = acc + (x % 128 + 128 * m) * 128 ^ i
              rw [e2, Int.add_mul]; omega
            · show i + 1 + _ = i + (1 + _); omega
          · rw [hf]; simp only [putL]; rw [if_neg (by omega), show (x % 128 + 128 * m) / 128 = m from by omega, show (x % 128 + 128 * m) % 128 + 128 = x from by omega, h2]; rfl
          · rw [hf, p128]; omega
      · by_cases hz : x = 0 ∧ 0 < i
        · exact .inl ⟨3, by rw [getR, if_neg h9, if_neg hm, if_pos hz], by decide⟩
        · have hp : putL (9 - i) x = [x] := by
            cases hf : 9 - i with
            | zero => rfl
            | succ f => simp only [putL]; rw [if_pos (by omega)]
          refine .inr ⟨x, r, ?_, ?_, hb.1, ?_, fun _ => by omega⟩
          · rw [hp, getR, if_neg h9, if_neg hm, if_neg hz, show x % 128 = x from by omega]; rfl
          · rw [hp]; rfl
          · by_cases h8 : i = 9
            · subst h8; simp; omega
            · obtain ⟨f, hf⟩ : ∃ f, 9 - i = f + 1 := ⟨8 - i, by omega⟩
              have := pos128 f
              rw [hf, p128]; omega
theorem get_inv {xs : List Int} (hx : ∀ x ∈ xs, 0 ≤ x ∧ x ≤ 255) :
    (∃ e, get xs = (0, 0, e) ∧ e ≠ 0) ∨ ∃ (n : Int) (r : List Int), get xs = (n, (put n).length, 0) ∧ xs = put n ++ r ∧ 0 ≤ n ∧ n ≤ 18446744073709551615 := by
  rcases getR_inv xs 0 0 hx (by omega) with h | ⟨m, r, h1, h2, h3, h4, _⟩
  · exact .inl h
  · have e : (2 : Int) * 128 ^ (9 - 0) = 18446744073709551616 := by decide
    refine .inr ⟨m, r, ?_, h2, h3, by omega⟩
    rw [get, h1]; simp [put]

end Go.Proofs.YtkgdenbabafeoaaGreatDoor
