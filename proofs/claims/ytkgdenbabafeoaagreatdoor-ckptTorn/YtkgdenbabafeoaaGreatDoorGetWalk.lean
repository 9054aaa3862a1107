/-
  Contract of varint.Get: it returns what P1.2 says of the bytes that the slice reads as, and the world is as it was.
-/
import Derived.Test.YtkgdenbabafeoaaGreatDoorSame
namespace Go.Proofs.YtkgdenbabafeoaaGreatDoor
set_option maxRecDepth 100000
open Go.ChangeShapes Go.WideShapes Go.ChangeAt Go.RowKit

theorem andNot128 (x : Int) (h0 : 0 ≤ x) (h1 : x ≤ 255) : bits .andNot .u8 x 128 = x % 128 := by
  rw [u8_andNot _ _ (by omega) (by omega) (by omega) (by omega)]
  show ((x.toNat &&& 127 : Nat) : Int) = _
  rw [nat_mask7]; omega

theorem pow7 (k : Nat) : (128 : Int) ^ k = ((2 ^ (7 * k) : Nat) : Int) := by
  rw [Nat.pow_mul, Int.natCast_pow]; rfl
theorem pow7' (k : Nat) : (2 : Int) ^ (7 * k) = 128 ^ k := by
  rw [Int.pow_mul]; rfl
theorem or_step (k : Nat) (X y : Int) (h0 : 0 ≤ X) (h1 : X < 128 ^ k) (y0 : 0 ≤ y) (y1 : y < 128) (hk : k ≤ 9) (h9 : k = 9 → y ≤ 1) :
    bits .or .u64 X (IntKind.u64.wrap (y * 2 ^ (7 * k))) = X + y * 128 ^ k := by
  rw [pow7', IntKind.wrap_u64]
  rw [pow7] at h1 ⊢
  have hC : 0 < 2 ^ (7 * k) := Nat.pow_pos (by decide)
  have hj : ∀ a b : Nat, b < 2 ^ (7 * k) → b ||| a * 2 ^ (7 * k) = b + a * 2 ^ (7 * k) := fun a b hb => by
    rw [Nat.or_comm, nat_join (7 * k) _ _ (Nat.mul_mod_left _ _) hb, Nat.add_comm]
  obtain ⟨X, rfl⟩ := Int.eq_ofNat_of_zero_le h0
  obtain ⟨y, rfl⟩ := Int.eq_ofNat_of_zero_le y0
  have hb : y * 2 ^ (7 * k) ≤ 9223372036854775808 ∧ 2 ^ (7 * k) ≤ 9223372036854775808 := by
    by_cases h : k = 9
    · subst h
      have := h9 rfl
      have e : 2 ^ (7 * 9) = 9223372036854775808 := by decide
      rw [e]; omega
    · have e1 : 2 ^ (7 * k) ≤ 2 ^ 56 := Nat.pow_le_pow_right (by decide) (by omega)
      have e2 : (2 : Nat) ^ 56 = 72057594037927936 := by decide
      rw [e2] at e1
      have e3 : y * 2 ^ (7 * k) ≤ 127 * 2 ^ (7 * k) := Nat.mul_le_mul_right _ (by omega)
      omega
  have hj2 := hj y X (by omega)
  clear hj h9
  generalize 2 ^ (7 * k) = C at *
  have e : ((y : Int) * (C : Int)) % 18446744073709551616 = ((y * C : Nat) : Int) := by
    rw [← Int.natCast_mul]; omega
  rw [e, u64_or_nat _ _ (by omega) (by omega), hj2]
  simp

theorem or_step9 (X y : Int) (h0 : 0 ≤ X) (h1 : X < 128 ^ 9) (y0 : 0 ≤ y) (y1 : y ≤ 1) :
    bits .or .u64 X (y * 9223372036854775808) = X + y * 128 ^ 9 := by
  have h := or_step 9 X y h0 h1 y0 (by omega) (by omega) (fun _ => y1)
  have e : IntKind.u64.wrap (y * 2 ^ (7 * 9)) = y * 9223372036854775808 := by
    have e2 : (2 : Int) ^ (7 * 9) = 9223372036854775808 := by decide
    rw [e2, IntKind.wrap_u64]; omega
  rw [e] at h; exact h

theorem pow_next (k : Nat) (X y : Int) (h1 : X < 128 ^ k) (y1 : y < 128) : X + y * 128 ^ k < 128 ^ (k + 1) := by
  rw [p128]
  have : (y + 1) * 128 ^ k ≤ 128 * 128 ^ k := Int.mul_le_mul_of_nonneg_right (by omega) (Int.le_of_lt (pos128 k))
  rw [Int.add_mul] at this
  omega
theorem pow_pos' (k : Nat) (X y : Int) (h0 : 0 ≤ X) (y0 : 0 ≤ y) : 0 ≤ X + y * 128 ^ k := Int.add_nonneg h0 (Int.mul_nonneg y0 (Int.le_of_lt (pos128 k)))

theorem tup3 {a a' : Int} {b b' : Int} {c c' : Int} (h1 : a = a') (h2 : b = b') (h3 : c = c') : Ending.returned (.tuple #[.int .u64 a, .int .i64 b, .int .i64 c]) = .returned (.tuple #[.int .u64 a', .int .i64 b', .int .i64 c']) := by rw [h1, h2, h3]

set_option maxHeartbeats 800000 in
theorem get_row (b off cap : Nat) (xs : List Int) (w : World) (hn : 0 < xs.length) (hm : xs.length ≤ maxLen) (hx : ∀ x ∈ xs, 0 ≤ x ∧ x ≤ 255)
    (hcell : ∀ i, i < xs.length → w.cell? ⟨b, off + i, none⟩ = some (.int .u8 (xs.getD i 0))) :
    Calls Tryz.prog 69 #[.slice (some ⟨b, off, none⟩) xs.length cap] w fun e w' =>
      e = .returned (.tuple #[.int .u64 (get xs).1, .int .i64 (get xs).2.1, .int .i64 (get xs).2.2]) ∧ w' = w := by
  unfold maxLen at hm
  have HC : Hid (∀ i, i < xs.length → w.cell? ⟨b, off + i, none⟩ = some (.int .u8 (xs.getD i 0))) := hcell
  have HX : Hid (∀ x ∈ xs, 0 ≤ x ∧ x ≤ 255) := hx
  clear hcell hx
  go_enter Tryz.func69, Tryz.ntmps69
  go_wp2_with fail
  go_loop [5, 10] (fun n i => ∃ (k : Nat) (X : Int), k ≤ xs.length ∧ k ≤ 9 ∧ i = .int .i64 k ∧ n = .int .u64 X ∧ 0 ≤ X ∧ X < 128 ^ k ∧ get xs = getR k X (xs.drop k)) (fun _ i => xs.length - (intOf i).toNat)
  case atStart => exact ⟨0, 0, by omega, by omega, rfl, rfl, by omega, by simp, rfl⟩
  case round =>
    obtain ⟨k, X, hk, hk9, rfl, rfl, hX0, hX1, hd⟩ := hrel
    have HX1 : Hid (X < 128 ^ k) := hX1
    have HD : Hid (get xs = getR k X (xs.drop k)) := hd
    clear hX1 hd
    by_cases hlt : k < xs.length
    · have hck := HC.out k hlt
      have hxb := HX.out (xs.getD k 0) (by rw [List.getD_eq_getElem?_getD, List.getElem?_eq_getElem hlt]; exact List.getElem_mem hlt)
      obtain ⟨x, hxe⟩ : ∃ x, x = xs.getD k 0 := ⟨_, rfl⟩
      rw [← hxe] at hck hxb
      have HE : Hid (x = xs.getD k 0) := hxe
      clear hxe
      have HS : Hid (xs.drop k = x :: xs.drop (k + 1)) := by rw [HE.out]; exact drop_step hlt
      clear HE
      have han := andNot128 x hxb.1 hxb.2
      by_cases hov : k = 9 ∧ 1 < x
      · obtain ⟨rfl, h1⟩ := hov
        have hv : get xs = (0, 0, 6) := by rw [HD.out, HS.out]; simp [getR, h1]
        have HV : Hid (get xs = (0, 0, 6)) := hv
        clear hv
        go_wp2_with fail
        go_ret3
        exact ⟨by rw [HV.out]; rfl, rfl⟩
      · have hor := or_step k X (x % 128) hX0 HX1.out (by omega) (by omega) hk9 (by omega)
        have hn0 := pow_pos' k X (x % 128) hX0 (by omega)
        have hn1 := pow_next k X (x % 128) HX1.out (by omega)
        have HG : Hid (getR k X (x :: xs.drop (k + 1)) = if 128 ≤ x then getR (k + 1) (X + x % 128 * 128 ^ k) (xs.drop (k + 1)) else if x = 0 ∧ 0 < k then (0, 0, 3) else (X + x % 128 * 128 ^ k, k + 1, 0)) := by
          show getR k X (x :: xs.drop (k + 1)) = _
          rw [getR, if_neg hov]
        have HO : Hid (k = 9 → bits .or .u64 X (x % 128 * 9223372036854775808) = X + x % 128 * 128 ^ k) := by
          show k = 9 → _
          intro h9
          have h1 := HX1.out
          rw [h9] at h1 ⊢
          exact or_step9 X (x % 128) hX0 h1 (by omega) (by omega)
        generalize hY : X + x % 128 * 128 ^ k = Y at *
        have HN1 : Hid (Y < 128 ^ (k + 1)) := hn1
        clear hn1 hY
        by_cases hmore : 128 ≤ x
        · have hk8 : k ≤ 8 := by omega
          have hk9' : ((k : Int) == 9) = false := by simp; omega
          go_wp2_with fail
          go_round
          case rel => exact ⟨k + 1, Y, by omega, by omega, by go_num, rfl, hn0, HN1.out, by rw [HD.out, HS.out, HG.out, if_pos hmore]⟩
          case measure => simp [intOf]; omega
        · by_cases hz : x = 0 ∧ 0 < k
          · have HV : Hid (get xs = (0, 0, 3)) := by
              show get xs = _
              rw [HD.out, HS.out, HG.out, if_neg hmore, if_pos hz]
            obtain ⟨hz0, hz1⟩ := hz
            go_wp2_with fail
            all_goals
              go_ret3
              exact ⟨by rw [HV.out]; rfl, rfl⟩
          · have HV : Hid (get xs = (Y, k + 1, 0)) := by
              show get xs = _
              rw [HD.out, HS.out, HG.out, if_neg hmore, if_neg hz]
            go_wp2_with fail
            all_goals
              go_ret3
              exact ⟨by rw [HV.out]; first | exact tup3 rfl (by simp; done) rfl | exact tup3 (HO.out (by omega)) (by simp; omega) rfl, rfl⟩
    · have HV : Hid (get xs = (0, 0, 4)) := by
        show get xs = _
        rw [HD.out, List.drop_eq_nil_of_le (by omega)]; rfl
      go_wp2_with fail
      go_ret3
      exact ⟨by rw [HV.out]; rfl, rfl⟩

theorem get_empty (a : Option Addr) (cap : Nat) (w : World) :
    Calls Tryz.prog 69 #[.slice a 0 cap] w fun e w' =>
      e = .returned (.tuple #[.int .u64 0, .int .i64 0, .int .i64 4]) ∧ w' = w := by
  go_enter Tryz.func69, Tryz.ntmps69
  go_wp2_with fail
  refine wp_loop_rounds 1 ?_
  rw [rounds_succ]
  go_wp2
  go_ret3
  exact ⟨rfl, rfl⟩

theorem get_any (v : Value) (xs : List Int) (w : World) (h : Reads .u8 w v xs) (hx : ∀ x ∈ xs, 0 ≤ x ∧ x ≤ 255) :
    Calls Tryz.prog 69 #[v] w fun e w' =>
      e = .returned (.tuple #[.int .u64 (get xs).1, .int .i64 (get xs).2.1, .int .i64 (get xs).2.2]) ∧ w' = w := by
  by_cases hn : 0 < xs.length
  · obtain ⟨b, off, cap, rfl, hc, hm, _, hcell⟩ := h.plain hn
    exact get_row b off cap xs w hn (Nat.le_trans hc hm) hx hcell
  · have : xs = [] := List.eq_nil_of_length_eq_zero (by omega)
    subst this
    obtain ⟨a, cap, rfl, _, _⟩ := h.empty
    exact get_empty a cap w
end Go.Proofs.YtkgdenbabafeoaaGreatDoor
