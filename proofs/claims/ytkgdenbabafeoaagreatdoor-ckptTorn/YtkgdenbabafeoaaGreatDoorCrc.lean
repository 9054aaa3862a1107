/-
  Plain mathematics of P2.1 (no program): the register bit by bit, that it is linear and loses nothing, the sum of bytes, and what a changed byte does to it.
-/
import Derived.Test.YtkgdenbabafeoaaGreatDoorRows
namespace Go.Proofs.YtkgdenbabafeoaaGreatDoor
set_option maxRecDepth 100000

/-- One bit falls out. -/
def sh (r : Nat) : Nat := if r % 2 = 1 then r / 2 ^^^ 3988292384 else r / 2
def shN : Nat → Nat → Nat
  | 0, r => r
  | k + 1, r => sh (shN k r)
def eight (r : Nat) : Nat := shN 8 r
/-- The register behind some bytes. -/
def runR : Nat → List Int → Nat
  | r, [] => r
  | r, x :: l => runR (eight (r ^^^ x.toNat)) l
/-- P2.1 -/
def crc (l : List Int) : Nat := 4294967295 ^^^ runR 4294967295 l

theorem xor_lt {a b : Nat} (ha : a < 4294967296) (hb : b < 4294967296) : a ^^^ b < 4294967296 := Nat.xor_lt_two_pow (n := 32) ha hb
theorem xor_lt8 {a b : Nat} (ha : a < 256) (hb : b < 256) : a ^^^ b < 256 := Nat.xor_lt_two_pow (n := 8) ha hb
theorem sh_lt {r : Nat} (h : r < 4294967296) : sh r < 4294967296 := by
  unfold sh; split
  · exact xor_lt (by omega) (by omega)
  · omega
theorem shN_lt {r : Nat} (h : r < 4294967296) : ∀ k, shN k r < 4294967296
  | 0 => h
  | k + 1 => sh_lt (shN_lt h k)
theorem eight_lt {r : Nat} (h : r < 4294967296) : eight r < 4294967296 := shN_lt h 8

theorem xor_swap (a b c d : Nat) : (a ^^^ b) ^^^ (c ^^^ d) = (a ^^^ c) ^^^ (b ^^^ d) := by
  rw [Nat.xor_assoc, Nat.xor_assoc, ← Nat.xor_assoc b c d, Nat.xor_comm b c, Nat.xor_assoc c b d]
theorem xor_undo (a b : Nat) : (a ^^^ b) ^^^ b = a := by rw [Nat.xor_assoc, Nat.xor_self, Nat.xor_zero]
theorem xor_mod2 (a b : Nat) : (a ^^^ b) % 2 = (a + b) % 2 := by
  have h : decide ((a ^^^ b) % 2 = 1) = (decide (a % 2 = 1) ^^ decide (b % 2 = 1)) := by
    rw [← Nat.testBit_zero, ← Nat.testBit_zero, ← Nat.testBit_zero]; exact Nat.testBit_xor a b 0
  rcases Nat.mod_two_eq_zero_or_one a with ha | ha <;> rcases Nat.mod_two_eq_zero_or_one b with hb | hb <;> rw [ha, hb] at h
  · have := of_decide_eq_false h; omega
  · have := of_decide_eq_true h; omega
  · have := of_decide_eq_true h; omega
  · have := of_decide_eq_false h; omega
theorem sh_xor (a b : Nat) : sh (a ^^^ b) = sh a ^^^ sh b := by
  have hm : (a ^^^ b) % 2 = (a + b) % 2 := xor_mod2 _ _
  have hd : (a ^^^ b) / 2 = a / 2 ^^^ b / 2 := Nat.xor_div_two
  unfold sh
  rw [hm, hd]
  rcases Nat.mod_two_eq_zero_or_one a with ha | ha <;> rcases Nat.mod_two_eq_zero_or_one b with hb | hb
  · rw [if_neg (by omega), if_neg (by omega), if_neg (by omega)]
  · rw [if_pos (by omega), if_neg (by omega), if_pos (by omega), Nat.xor_assoc]
  · rw [if_pos (by omega), if_pos (by omega), if_neg (by omega), Nat.xor_assoc, Nat.xor_assoc, Nat.xor_comm (b / 2)]
  · rw [if_neg (by omega), if_pos (by omega), if_pos (by omega), xor_swap, Nat.xor_self, Nat.xor_zero]
theorem shN_xor (a b : Nat) : ∀ k, shN k (a ^^^ b) = shN k a ^^^ shN k b
  | 0 => rfl
  | k + 1 => by show sh (shN k (a ^^^ b)) = sh (shN k a) ^^^ sh (shN k b); rw [shN_xor a b k, sh_xor]
theorem eight_xor (a b : Nat) : eight (a ^^^ b) = eight a ^^^ eight b := shN_xor a b 8
theorem sh_even (m : Nat) : sh (2 * m) = m := by unfold sh; rw [if_neg (by omega)]; omega
theorem eight_high (m : Nat) : eight (256 * m) = m := by
  have e : 256 * m = 2 * (2 * (2 * (2 * (2 * (2 * (2 * (2 * m))))))) := by omega
  rw [e]
  show sh (sh (sh (sh (sh (sh (sh (sh (2 * (2 * (2 * (2 * (2 * (2 * (2 * (2 * m))))))))))))))) = m
  rw [sh_even, sh_even, sh_even, sh_even, sh_even, sh_even, sh_even, sh_even]
theorem parts (r : Nat) : r = 256 * (r / 256) ^^^ r % 256 := by
  apply Nat.eq_of_testBit_eq
  intro i
  rw [Nat.testBit_xor, show 256 = 2 ^ 8 from rfl, Nat.testBit_two_pow_mul, Nat.testBit_mod_two_pow, Nat.testBit_div_two_pow]
  by_cases h : i < 8
  · simp [h, show ¬ 8 ≤ i by omega]
  · simp [h, show 8 ≤ i by omega]
/-- What the table tells: the lowest eight bits alone, and the rest moved down. -/
theorem eight_table (r x : Nat) : r / 256 ^^^ eight (r % 256 ^^^ x) = eight (r ^^^ x) := by
  have e : r ^^^ x = 256 * (r / 256) ^^^ (r % 256 ^^^ x) := by rw [← Nat.xor_assoc, ← parts]
  rw [e, eight_xor (256 * (r / 256)), eight_high]

theorem sh_zero {d : Nat} (hd : d < 4294967296) (h : sh d = 0) : d = 0 := by
  unfold sh at h
  split at h
  · have : d / 2 = 3988292384 := by
      have h2 : (d / 2 ^^^ 3988292384) ^^^ 3988292384 = 0 ^^^ 3988292384 := by rw [h]
      rwa [xor_undo, Nat.zero_xor] at h2
    omega
  · omega
theorem shN_zero {d : Nat} (hd : d < 4294967296) : ∀ k, shN k d = 0 → d = 0
  | 0, h => h
  | k + 1, h => shN_zero hd k (sh_zero (shN_lt hd k) h)
theorem xor_zero_eq {a b : Nat} (h : a ^^^ b = 0) : a = b := by
  have h2 : (a ^^^ b) ^^^ b = 0 ^^^ b := by rw [h]
  rwa [xor_undo, Nat.zero_xor] at h2
theorem eight_inj {a b : Nat} (ha : a < 4294967296) (hb : b < 4294967296) (h : eight a = eight b) : a = b := by
  apply xor_zero_eq
  apply shN_zero (xor_lt ha hb) 8
  show eight (a ^^^ b) = 0
  rw [eight_xor, h, Nat.xor_self]

/-- P2.1 as it is told bit by bit, of the register and the byte apart. -/
theorem bit_apart (s c : Nat) : sh (s ^^^ c) = (if (s + c) % 2 = 1 then s / 2 ^^^ 3988292384 else s / 2) ^^^ c / 2 := by
  have hm : (s ^^^ c) % 2 = (s + c) % 2 := xor_mod2 _ _
  have hd : (s ^^^ c) / 2 = s / 2 ^^^ c / 2 := Nat.xor_div_two
  unfold sh
  rw [hm, hd]
  split
  · rw [Nat.xor_assoc, Nat.xor_assoc, Nat.xor_comm (c / 2)]
  · rfl

theorem runR_append : ∀ (r : Nat) (a b : List Int), runR r (a ++ b) = runR (runR r a) b
  | r, [], b => rfl
  | r, x :: a, b => by show runR _ (a ++ b) = _; rw [runR_append]; rfl
theorem runR_snoc (r : Nat) (a : List Int) (x : Int) : runR r (a ++ [x]) = eight (runR r a ^^^ x.toNat) := by rw [runR_append]; rfl
theorem byte_lt {x : Int} (h : 0 ≤ x ∧ x ≤ 255) : x.toNat < 256 := by omega
theorem runR_lt : ∀ (l : List Int) (r : Nat), r < 4294967296 → (∀ x ∈ l, 0 ≤ x ∧ x ≤ 255) → runR r l < 4294967296
  | [], r, h, _ => h
  | x :: l, r, h, hl => by
    have hx := byte_lt (hl x (by simp))
    exact runR_lt l _ (eight_lt (xor_lt h (by omega))) (fun y hy => hl y (by simp [hy]))
theorem crc_lt {l : List Int} (hl : ∀ x ∈ l, 0 ≤ x ∧ x ≤ 255) : crc l < 4294967296 := xor_lt (by omega) (runR_lt l _ (by omega) hl)
theorem runR_inj : ∀ (l : List Int) (r s : Nat), r < 4294967296 → s < 4294967296 → (∀ x ∈ l, 0 ≤ x ∧ x ≤ 255) → runR r l = runR s l → r = s
  | [], _, _, _, _, _, h => h
  | x :: l, r, s, hr, hs, hl, h => by
    have hx := byte_lt (hl x (by simp))
    have h1 := runR_inj l _ _ (eight_lt (xor_lt hr (show x.toNat < 4294967296 by omega))) (eight_lt (xor_lt hs (show x.toNat < 4294967296 by omega))) (fun y hy => hl y (by simp [hy])) h
    have h2 := eight_inj (xor_lt hr (by omega)) (xor_lt hs (by omega)) h1
    have h3 : (r ^^^ x.toNat) ^^^ x.toNat = (s ^^^ x.toNat) ^^^ x.toNat := by rw [h2]
    rwa [xor_undo, xor_undo] at h3

/-- What is left of a difference of registers behind so many bytes, whatever they are. -/
def farN : Nat → Nat → Nat
  | 0, d => d
  | n + 1, d => farN n (eight d)
theorem runR_far : ∀ (l : List Int) (r s : Nat), runR r l ^^^ runR s l = farN l.length (r ^^^ s)
  | [], r, s => rfl
  | x :: l, r, s => by
    show runR _ l ^^^ runR _ l = farN l.length (eight (r ^^^ s))
    rw [runR_far l, ← eight_xor, xor_swap, Nat.xor_self, Nat.xor_zero]
theorem crc_xor (a b : List Int) : crc a ^^^ crc b = runR 4294967295 a ^^^ runR 4294967295 b := by
  unfold crc; rw [xor_swap, Nat.xor_self, Nat.zero_xor]
/-- One byte turned turns the sum in a way that does not hang on the other bytes. -/
theorem crc_turn (p q : List Int) (x y : Int) : crc (p ++ x :: q) ^^^ crc (p ++ y :: q) = farN (q.length + 1) (x.toNat ^^^ y.toNat) := by
  rw [crc_xor, runR_append, runR_append]
  show runR (eight (runR 4294967295 p ^^^ x.toNat)) q ^^^ runR (eight (runR 4294967295 p ^^^ y.toNat)) q = _
  rw [runR_far, ← eight_xor]
  show farN q.length (eight ((runR 4294967295 p ^^^ x.toNat) ^^^ (runR 4294967295 p ^^^ y.toNat))) = _
  rw [xor_swap, Nat.xor_self, Nat.zero_xor]; rfl
/-- One byte changed changes the sum. -/
theorem crc_changed (p q : List Int) (x y : Int) (hp : ∀ z ∈ p, 0 ≤ z ∧ z ≤ 255) (hq : ∀ z ∈ q, 0 ≤ z ∧ z ≤ 255) (hx : 0 ≤ x ∧ x ≤ 255) (hy : 0 ≤ y ∧ y ≤ 255) (h : x ≠ y) : crc (p ++ x :: q) ≠ crc (p ++ y :: q) := by
  intro e
  have h0 : runR 4294967295 (p ++ x :: q) ^^^ runR 4294967295 (p ++ y :: q) = 0 := by rw [← crc_xor, e, Nat.xor_self]
  have h1 := xor_zero_eq h0
  rw [runR_append, runR_append] at h1
  have hr := runR_lt p 4294967295 (by omega) hp
  have bx := byte_lt hx
  have bz := byte_lt hy
  have h2 := runR_inj q _ _ (eight_lt (xor_lt hr (show x.toNat < 4294967296 by omega))) (eight_lt (xor_lt hr (show y.toNat < 4294967296 by omega))) hq h1
  have h3 := eight_inj (xor_lt hr (by omega)) (xor_lt hr (by omega)) h2
  have h4 : runR 4294967295 p ^^^ (runR 4294967295 p ^^^ x.toNat) = runR 4294967295 p ^^^ (runR 4294967295 p ^^^ y.toNat) := by rw [h3]
  rw [← Nat.xor_assoc, ← Nat.xor_assoc, Nat.xor_self, Nat.zero_xor, Nat.zero_xor] at h4
  omega
theorem ones_sub {a : Nat} (h : a < 4294967296) : 4294967295 ^^^ a = 4294967295 - a := by
  have h2 : (4294967295 ^^^ a) + a = 4294967295 := by
    have e : BitVec.toNat (BitVec.allOnes 32 ^^^ BitVec.ofNat 32 a) = 4294967295 ^^^ a := by
      rw [BitVec.toNat_xor, BitVec.toNat_allOnes, BitVec.toNat_ofNat, Nat.mod_eq_of_lt h]
    rw [← e, BitVec.allOnes_xor, BitVec.toNat_not, BitVec.toNat_ofNat, Nat.mod_eq_of_lt h]
    omega
  omega
end Go.Proofs.YtkgdenbabafeoaaGreatDoor
