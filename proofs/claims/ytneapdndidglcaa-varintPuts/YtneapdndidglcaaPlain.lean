/-
  Plain mathematics of P1.1 and P1.2 (no program): the bytes of a number, the number of bytes, and that each undoes the other.
-/
import Derived.Test.YtneapdndidglcaaRows
namespace Go.Proofs.Ytneapdndidglcaa

/-- The bytes of a number, with so many steps to come. -/
def putL : Nat → Int → List Int
  | 0, n => [n]
  | f + 1, n => if n < 128 then [n] else (n % 128 + 128) :: putL f (n / 128)
/-- P1.1 -/
def put (n : Int) : List Int := putL 9 n

theorem p128 (f : Nat) : (128 : Int) ^ (f + 1) = 128 * 128 ^ f := by rw [Int.pow_succ, Int.mul_comm]
theorem pos128 (f : Nat) : (0 : Int) < 128 ^ f := Int.pow_pos (by decide)
theorem div128_lt {n m : Int} (h : n < 128 * m) : n / 128 < m := by omega

theorem putL_step : ∀ (f : Nat) (n : Int), 0 ≤ n → n < 128 ^ (f + 1) → putL f n = putL (f + 1) n
  | 0, n, h0, h => by
    have h' : n < 128 := by simpa using h
    simp [putL, h']
  | f + 1, n, h0, h => by
    have h2 : n / 128 < 128 ^ (f + 1) := div128_lt (by rw [p128] at h; exact h)
    have ih := putL_step f (n / 128) (by omega) h2
    show (if n < 128 then [n] else (n % 128 + 128) :: putL f (n / 128)) = (if n < 128 then [n] else (n % 128 + 128) :: putL (f + 1) (n / 128))
    rw [ih]

theorem put_small {n : Int} (h : n < 128) : put n = [n] := by simp [put, putL, h]
theorem put_big {n : Int} (h : 128 ≤ n) (h1 : n ≤ 18446744073709551615) : put n = (n % 128 + 128) :: put (n / 128) := by
  have e : putL 8 (n / 128) = putL 9 (n / 128) := putL_step 8 (n / 128) (by omega) (by
    have : (128 : Int) ^ (8 + 1) = 9223372036854775808 := by decide
    rw [this]; omega)
  show (if n < 128 then [n] else (n % 128 + 128) :: putL 8 (n / 128)) = _
  rw [if_neg (by omega), e]; rfl

theorem putL_bytes : ∀ (f : Nat) (n : Int), 0 ≤ n → n < 128 ^ (f + 1) → ∀ x ∈ putL f n, 0 ≤ x ∧ x ≤ 255
  | 0, n, h0, h, x, hx => by
    have h' : n < 128 := by simpa using h
    simp [putL] at hx; omega
  | f + 1, n, h0, h, x, hx => by
    by_cases hn : n < 128
    · simp [putL, hn] at hx; omega
    · simp only [putL, if_neg hn, List.mem_cons] at hx
      rcases hx with hx | hx
      · omega
      · exact putL_bytes f (n / 128) (by omega) (div128_lt (by rw [p128] at h; exact h)) x hx
theorem lt_128_10 {n : Int} (h : n ≤ 18446744073709551615) : n < 128 ^ (9 + 1) := by
  have : (128 : Int) ^ (9 + 1) = 1180591620717411303424 := by decide
  rw [this]; omega
theorem put_bytes {n : Int} (h0 : 0 ≤ n) (h1 : n ≤ 18446744073709551615) : ∀ x ∈ put n, 0 ≤ x ∧ x ≤ 255 := putL_bytes 9 n h0 (lt_128_10 h1)

theorem putL_len : ∀ (f : Nat) (n : Int), 1 ≤ (putL f n).length ∧ (putL f n).length ≤ f + 1
  | 0, n => by simp [putL]
  | f + 1, n => by
    have := putL_len f (n / 128)
    by_cases hn : n < 128
    · simp [putL, hn]
    · simp only [putL, if_neg hn, List.length_cons]; omega
theorem put_len (n : Int) : 1 ≤ (put n).length ∧ (put n).length ≤ 10 := putL_len 9 n

/-- P1.2, byte by byte: i bytes are behind us, and they made the number n. -/
def getR (i : Nat) (n : Int) : List Int → Int × Nat × Int
  | [] => (0, 0, 4)
  | x :: r => if i = 9 ∧ 1 < x then (0, 0, 6) else if 128 ≤ x then getR (i + 1) (n + x % 128 * 128 ^ i) r else if x = 0 ∧ 0 < i then (0, 0, 3) else (n + x % 128 * 128 ^ i, i + 1, 0)
def get (l : List Int) : Int × Nat × Int := getR 0 0 l

end Go.Proofs.Ytneapdndidglcaa
