/-
  P6 in plain mathematics: which error, which worker, which list.
-/
import Derived.Test.YtacpicnihgggaaaRowCore
namespace Go.Proofs.Ytacpicnihgggaaa

/-- What a call is refused with: of n vertices and k workers the i-th of so many is asked. -/
def errO (i many n k : Int) : Int := if n < 0 ∨ 200 < n ∨ k < 1 ∨ 8 < k then 1 else if i < 0 ∨ many ≤ i then 2 else 0
theorem errO_size {i many n k : Int} (h : n < 0 ∨ 200 < n ∨ k < 1 ∨ 8 < k) : errO i many n k = 1 := by rw [errO, if_pos h]
theorem errO_range {i many n k : Int} (h : ¬ (n < 0 ∨ 200 < n ∨ k < 1 ∨ 8 < k)) (h2 : i < 0 ∨ many ≤ i) : errO i many n k = 2 := by rw [errO, if_neg h, if_pos h2]
theorem errO_ok {i many n k : Int} (h : ¬ (n < 0 ∨ 200 < n ∨ k < 1 ∨ 8 < k)) (h2 : ¬ (i < 0 ∨ many ≤ i)) : errO i many n k = 0 := by rw [errO, if_neg h, if_neg h2]
theorem errO_inv {i many n k : Int} (h : errO i many n k = 0) : (0 ≤ n ∧ n ≤ 200 ∧ 1 ≤ k ∧ k ≤ 8) ∧ 0 ≤ i ∧ i < many := by
  unfold errO at h
  split at h
  · cases h
  · split at h
    · cases h
    · omega

/-- How many vertices the worker a has, of n, with k workers. -/
def cntO (a n k : Nat) : Nat := (n + (k - 1) - a) / k
/-- P6.2: the worker's list. -/
def mineL (a n k : Nat) : List Int := (List.range (cntO a n k)).map fun i => ((a + i * k : Nat) : Int)
def mineT (a k j : Nat) : List Int := (List.range j).map fun i => ((a + i * k : Nat) : Int)
theorem mineT_len (a k j : Nat) : (mineT a k j).length = j := by simp [mineT]
theorem mineT_next (a k j : Nat) : mineT a k (j + 1) = mineT a k j ++ [((a + j * k : Nat) : Int)] := by simp [mineT, List.range_succ]
theorem mineL_len (a n k : Nat) : (mineL a n k).length = cntO a n k := by simp [mineL]
theorem mineL_at {a n k i : Nat} (h : i < cntO a n k) : (mineL a n k)[i]? = some ((a + i * k : Nat) : Int) := by simp [mineL, h]

theorem upto8 {k : Nat} (h : 1 ≤ k ∧ k ≤ 8) : k = 1 ∨ k = 2 ∨ k = 3 ∨ k = 4 ∨ k = 5 ∨ k = 6 ∨ k = 7 ∨ k = 8 := by omega
theorem cnt_more {a n k j : Nat} (hk : 1 ≤ k ∧ k ≤ 8) (ha : a < k) : j < cntO a n k ↔ a + j * k < n := by
  unfold cntO
  rcases upto8 hk with h | h | h | h | h | h | h | h <;> subst h <;> omega
theorem cnt_le {a n k : Nat} (hk : 1 ≤ k ∧ k ≤ 8) : cntO a n k ≤ n := by
  unfold cntO
  rcases upto8 hk with h | h | h | h | h | h | h | h <;> subst h <;> omega
theorem cnt_even {a n k : Nat} (hk : 1 ≤ k ∧ k ≤ 8) (ha : a < k) : n / k ≤ cntO a n k ∧ cntO a n k ≤ n / k + 1 := by
  unfold cntO
  rcases upto8 hk with h | h | h | h | h | h | h | h <;> subst h <;> omega
theorem mine_hit {a n k : Nat} (hk : 1 ≤ k ∧ k ≤ 8) (h : n % k = a) : mineL a (n + 1) k = mineL a n k ++ [(n : Int)] := by
  have h1 : cntO a (n + 1) k = cntO a n k + 1 ∧ a + cntO a n k * k = n := by
    unfold cntO
    rcases upto8 hk with h' | h' | h' | h' | h' | h' | h' | h' <;> subst h' <;> omega
  unfold mineL
  rw [h1.1, List.range_succ, List.map_append]
  simp only [List.map_cons, List.map_nil]
  rw [h1.2]
theorem mine_miss {a n k : Nat} (hk : 1 ≤ k ∧ k ≤ 8) (ha : a < k) (h : n % k ≠ a) : mineL a (n + 1) k = mineL a n k := by
  have h1 : cntO a (n + 1) k = cntO a n k := by
    unfold cntO
    rcases upto8 hk with h' | h' | h' | h' | h' | h' | h' | h' <;> subst h' <;> omega
  unfold mineL
  rw [h1]
theorem mine_none {a k : Nat} (hk : 1 ≤ k ∧ k ≤ 8) : mineL a 0 k = [] := by
  have : cntO a 0 k = 0 := by
    unfold cntO
    rcases upto8 hk with h' | h' | h' | h' | h' | h' | h' | h' <;> subst h' <;> omega
  unfold mineL
  rw [this]; rfl
/-- A vertex stands in its worker's list, at its place. -/
theorem place_lt {v n k : Nat} (hk : 1 ≤ k ∧ k ≤ 8) (h : v < n) : v / k < cntO (v % k) n k := by
  unfold cntO
  rcases upto8 hk with h' | h' | h' | h' | h' | h' | h' | h' <;> subst h' <;> omega
theorem at_place {a v k i : Nat} (hk : 1 ≤ k ∧ k ≤ 8) (ha : a < k) : a + i * k = v ↔ (v % k = a ∧ v / k = i) := by
  rcases upto8 hk with h' | h' | h' | h' | h' | h' | h' | h' <;> subst h' <;> omega
/-- The vertices of the first j workers. -/
def sumO (n k : Nat) : Nat → Nat
  | 0 => 0
  | j + 1 => sumO n k j + cntO j n k
theorem sum_next {n k : Nat} (hk : 1 ≤ k ∧ k ≤ 8) : ∀ j, j ≤ k → sumO (n + 1) k j = sumO n k j + (if n % k < j then 1 else 0)
  | 0, _ => by simp [sumO]
  | j + 1, hj => by
    rw [sumO, sumO, sum_next hk j (by omega)]
    by_cases h : n % k = j
    · have := congrArg List.length (mine_hit (n := n) hk h)
      rw [mineL_len, List.length_append, mineL_len] at this
      simp at this
      rw [this, if_neg (by omega), if_pos (by omega)]
      omega
    · have := congrArg List.length (mine_miss (n := n) hk (by omega : j < k) h)
      rw [mineL_len, mineL_len] at this
      rw [this]
      by_cases h2 : n % k < j
      · rw [if_pos h2, if_pos (by omega)]; omega
      · rw [if_neg h2, if_neg (by omega)]; omega
theorem sum_zero {k : Nat} (hk : 1 ≤ k ∧ k ≤ 8) : ∀ j, sumO 0 k j = 0
  | 0 => rfl
  | j + 1 => by
    have := congrArg List.length (mine_none (a := j) hk)
    rw [mineL_len] at this
    rw [sumO, sum_zero hk j, this]; rfl
theorem sum_all {k : Nat} (hk : 1 ≤ k ∧ k ≤ 8) : ∀ n, sumO n k k = n
  | 0 => sum_zero hk k
  | n + 1 => by rw [sum_next hk k (Nat.le_refl _), sum_all hk n, if_pos (Nat.mod_lt _ (by omega))]
theorem sum_le {n k : Nat} (hk : 1 ≤ k ∧ k ≤ 8) : ∀ j, sumO n k j ≤ j * n
  | 0 => by simp [sumO]
  | j + 1 => by
    have h1 := sum_le (n := n) hk j
    have h2 := cnt_le (a := j) (n := n) hk
    rw [sumO, Nat.add_mul]
    omega
end Go.Proofs.Ytacpicnihgggaaa
