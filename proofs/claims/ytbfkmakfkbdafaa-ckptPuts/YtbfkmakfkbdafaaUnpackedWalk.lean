/-
  Contract of pacelineref.Unpacked: it returns what P1.2 says of the bytes that the slice reads as, and the world is as it was.
-/
import Derived.Test.YtbfkmakfkbdafaaGetWalk
namespace Go.Proofs.Ytbfkmakfkbdafaa
set_option maxRecDepth 100000
open Go.ChangeShapes Go.WideShapes Go.ChangeAt Go.RowKit

set_option maxHeartbeats 1600000 in
theorem unpacked_row (b off cap : Nat) (xs : List Int) (w : World) (hn : 0 < xs.length) (hm : xs.length ≤ maxLen) (hx : ∀ x ∈ xs, 0 ≤ x ∧ x ≤ 255)
    (hcell : ∀ i, i < xs.length → w.cell? ⟨b, off + i, none⟩ = some (.int .u8 (xs.getD i 0))) :
    Calls Try.prog 56 #[.slice (some ⟨b, off, none⟩) xs.length cap] w fun e w' =>
      e = .returned (.tuple #[.int .u64 (get xs).1, .int .i64 (get xs).2.1, .int .i64 (get xs).2.2]) ∧ w' = w := by
  unfold maxLen at hm
  have HC : Hid (∀ i, i < xs.length → w.cell? ⟨b, off + i, none⟩ = some (.int .u8 (xs.getD i 0))) := hcell
  have HX : Hid (∀ i, i < xs.length → 0 ≤ xs.getD i 0 ∧ xs.getD i 0 ≤ 255) := fun i hi => hx _ (by rw [List.getD_eq_getElem?_getD, List.getElem?_eq_getElem hi]; exact List.getElem_mem hi)
  clear hcell hx
  go_enter Try.func56, Try.ntmps56
  go_wp2_with fail
  go_loop [5] (fun i => ∃ (k : Nat), k ≤ xs.length ∧ k ≤ 10 ∧ i = .int .i64 k ∧ ∀ i, i < k → 128 ≤ xs.getD i 0) (fun i => 10 - (intOf i).toNat)
  case atStart => exact ⟨0, by omega, by omega, rfl, fun i hi => by omega⟩
  case round =>
    obtain ⟨k, hk, hk10, rfl, hb⟩ := hrel
    have HB : Hid (∀ i, i < k → 128 ≤ xs.getD i 0) := hb
    clear hb
    by_cases hgo : k < xs.length ∧ k < 10 ∧ 128 ≤ xs.getD k 0
    · obtain ⟨hlt, h10, hge⟩ := hgo
      have hck := HC.out k hlt
      have hxb := HX.out k hlt
      generalize hxe : xs.getD k 0 = x at hck hxb hge
      have HE : Hid (xs.getD k 0 = x) := hxe
      clear hxe
      go_wp2_with fail
      go_round
      case rel => exact ⟨k + 1, by omega, by omega, by go_num, fun i hi => by
        by_cases h : i = k
        · rw [h, HE.out]; exact hge
        · exact HB.out i (by omega)⟩
      case measure => simp [intOf]; omega
    · by_cases h10 : k = 10
      · have hl9 : 9 < xs.length := by omega
        have hck := HC.out 9 hl9
        have hy := HB.out 9 (by omega)
        have hxb := HX.out 9 hl9
        have HV : Hid (get xs = (0, 0, 6)) := get_over xs hl9 (fun i hi => HB.out i (by omega)) (by omega)
        clear hgo
        generalize xs.getD 9 0 = y at *
        have hge : 10 ≤ k := by omega
        clear h10
        by_cases hlt : k < xs.length
        all_goals
          go_wp2_with fail
          go_ret3
          exact ⟨by rw [HV.out]; rfl, rfl⟩
      · by_cases hlt : k < xs.length
        · have hck := HC.out k hlt
          have hxb := HX.out k hlt
          have hsm : xs.getD k 0 < 128 := by
            rcases Int.lt_or_le (xs.getD k 0) 128 with h | h
            · exact h
            · exact absurd ⟨hlt, by omega, h⟩ hgo
          have Hov : Hid (k = 9 → 1 < xs.getD k 0 → get xs = (0, 0, 6)) := fun h9 h1 => get_over xs (by omega) (by rw [h9] at HB; exact HB.out) (by rw [h9] at h1; exact h1)
          have Hform : Hid (0 < k → xs.getD k 0 = 0 → get xs = (0, 0, 3)) := fun h0 hz => get_form xs k (by omega) h0 hlt HB.out hz
          have Hok : Hid ((k = 9 → xs.getD k 0 ≤ 1) → ¬ (xs.getD k 0 = 0 ∧ 0 < k) → get xs = (val (xs.take (k + 1)), k + 1, 0) ∧ 0 ≤ val (xs.take (k + 1)) ∧ val (xs.take (k + 1)) ≤ 18446744073709551615) :=
            fun h9 hz => get_ok xs k (by omega) hlt HB.out h9 hxb.1 hsm hz
          have H9 : Hid (9 ≤ k → w.cell? ⟨b, off + 9, none⟩ = some (.int .u8 (xs.getD k 0))) := fun h => by
            have e : k = 9 := by omega
            have h1 := hck
            rw [e] at h1 ⊢
            exact h1
          have HK : Hid (w.cell? ⟨b, off + k, none⟩ = some (.int .u8 (xs.getD k 0))) := hck
          clear hgo hck
          generalize hxe : xs.getD k 0 = x at *
          have hck := HK.out
          clear hxe HK
          have hk9 : k ≤ 9 := by omega
          clear h10 hk10
          by_cases hov : 9 ≤ k ∧ 1 < x
          · have HV : Hid (get xs = (0, 0, 6)) := Hov.out (by omega) hov.2
            have hc9 := H9.out hov.1
            obtain ⟨h9, h1⟩ := hov
            go_wp2_with fail
            go_ret3
            exact ⟨by rw [HV.out]; rfl, rfl⟩
          · by_cases hz : x = 0 ∧ 0 < k
            · have HV : Hid (get xs = (0, 0, 3)) := Hform.out hz.2 hz.1
              have hz' : (x == 0) = true := by simp [hz.1]
              have hz0 := hz.2
              have hx1 : x ≤ 1 := by omega
              clear hz hov
              by_cases h9 : 9 ≤ k
              · have hc9 := H9.out h9
                go_wp2_with fail
                go_ret3
                exact ⟨by rw [HV.out]; rfl, rfl⟩
              · go_wp2_with fail
                go_ret3
                exact ⟨by rw [HV.out]; rfl, rfl⟩
            · obtain ⟨e1, e2, e3⟩ := Hok.out (fun _ => by omega) hz
              have HV : Hid (get xs = (val (xs.take (k + 1)), k + 1, 0)) := e1
              have HL : Hid (∀ t, t ≤ k → val ((xs.take (k + 1)).drop t) = xs.getD t 0 % 128 + 128 * val ((xs.take (k + 1)).drop (t + 1)) ∧ val ((xs.take (k + 1)).drop t) ≤ 18446744073709551615 ∧ 0 ≤ val ((xs.take (k + 1)).drop (t + 1))) := fun t ht => by
                refine ⟨?_, Int.le_trans (val_drop _ _) e3, val_nonneg _⟩
                have hd : t < (xs.take (k + 1)).length := by rw [List.length_take_of_le (by omega)]; omega
                rw [drop_step hd, val]
                congr 2
                rw [List.getD_eq_getElem?_getD, List.getD_eq_getElem?_getD, List.getElem?_take_of_lt (by omega)]
              have H0 : Hid (val ((xs.take (k + 1)).drop (k + 1)) = 0) := by
                show val _ = 0
                rw [List.drop_eq_nil_of_le (by rw [List.length_take_of_le (by omega)]; omega)]; rfl
              clear e1 e2 e3 Hok Hform Hov
              have hcase : (9 ≤ k ∧ x ≤ 1 ∧ (x == 0) = false ∧ w.cell? ⟨b, off + 9, none⟩ = some (.int .u8 x)) ∨ (k < 9 ∧ 0 < k ∧ (x == 0) = false) ∨ k < 1 := by
                by_cases h9 : 9 ≤ k
                · exact .inl ⟨h9, by omega, by simp; omega, H9.out h9⟩
                · by_cases h0 : 0 < k
                  · exact .inr (.inl ⟨by omega, h0, by simp; omega⟩)
                  · exact .inr (.inr (by omega))
              clear hz hov H9
              rcases hcase with ⟨h9, h1, hz', hc9⟩ | ⟨h9, h0, hz'⟩ | h0
              all_goals
                go_wp2_with fail
                go_loop [6, 7] (fun n i => ∃ j : Nat, j ≤ k + 1 ∧ i = .int .i64 ((j : Int) - 1) ∧ n = .int .u64 (val ((xs.take (k + 1)).drop j))) (fun _ i => (intOf i + 1).toNat)
                case atStart => exact ⟨k + 1, by omega, by go_num, by rw [H0.out]⟩
                case round =>
                  obtain ⟨j, hj, rfl, rfl⟩ := hrel
                  by_cases hj0 : 0 < j
                  · obtain ⟨t, rfl⟩ : ∃ t, j = t + 1 := ⟨j - 1, by omega⟩
                    have hct := HC.out t (by omega)
                    have hxt := HX.out t (by omega)
                    obtain ⟨v1, v2, v3⟩ := HL.out t (by omega)
                    have HV1 : Hid (val ((xs.take (k + 1)).drop t) = xs.getD t 0 % 128 + 128 * val ((xs.take (k + 1)).drop (t + 1))) := v1
                    rw [v1] at v2
                    clear v1
                    generalize xs.getD t 0 = y at *
                    generalize val ((xs.take (k + 1)).drop (t + 1)) = V at *
                    go_wp2_with fail
                    go_round
                    case rel => exact ⟨t, by omega, by go_num, by rw [HV1.out]; go_num⟩
                    case measure => simp [intOf]
                  · have hj1 : j = 0 := by omega
                    subst hj1
                    go_wp2_with fail
                    go_ret3
                    exact ⟨by rw [HV.out]; exact tup3 (by simp) (by simp) rfl, rfl⟩
        · have HV : Hid (get xs = (0, 0, 4)) := get_short xs (by omega) (fun i hi => HB.out i (by omega))
          have hl9 : xs.length ≤ 9 := by omega
          have he : ((k : Int) == (xs.length : Int)) = true := by simp; omega
          clear hgo h10
          by_cases h9 : 9 ≤ k
          all_goals
            go_wp2_with fail
            go_ret3
            exact ⟨by rw [HV.out]; rfl, rfl⟩

theorem unpacked_empty (a : Option Addr) (cap : Nat) (w : World) :
    Calls Try.prog 56 #[.slice a 0 cap] w fun e w' =>
      e = .returned (.tuple #[.int .u64 0, .int .i64 0, .int .i64 4]) ∧ w' = w := by
  go_enter Try.func56, Try.ntmps56
  go_wp2_with fail
  refine wp_loop_rounds 1 ?_
  rw [rounds_succ]
  go_wp2
  go_ret3
  exact ⟨rfl, rfl⟩

theorem unpacked_any (v : Value) (xs : List Int) (w : World) (h : Reads .u8 w v xs) (hx : ∀ x ∈ xs, 0 ≤ x ∧ x ≤ 255) :
    Calls Try.prog 56 #[v] w fun e w' =>
      e = .returned (.tuple #[.int .u64 (get xs).1, .int .i64 (get xs).2.1, .int .i64 (get xs).2.2]) ∧ w' = w := by
  by_cases hn : 0 < xs.length
  · obtain ⟨b, off, cap, rfl, hc, hm, _, hcell⟩ := h.plain hn
    exact unpacked_row b off cap xs w hn (Nat.le_trans hc hm) hx hcell
  · have : xs = [] := List.eq_nil_of_length_eq_zero (by omega)
    subst this
    obtain ⟨a, cap, rfl, _, _⟩ := h.empty
    exact unpacked_empty a cap w
end Go.Proofs.Ytbfkmakfkbdafaa
