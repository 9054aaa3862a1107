/-
  Contract of the document's own number.
-/
import Derived.Test.YtcfcpibamjgodaaDoorNumberMath
namespace Go.Proofs.YtcfcpibamjgodaaDoor
set_option maxRecDepth 100000
open Go.ChangeShapes Go.WideShapes Go.ChangeAt Go.RowKit

theorem num_none {L : List UInt8} {i : Nat} {e : UInt8} (h : ∀ (m : Nat) (r : List UInt8), m < 10 ^ 18 → L.drop i ≠ Lib.decDigits m ++ e :: r) : NumP L i e 0 (-1) := .inr ⟨rfl, rfl, h⟩
theorem str_at (s : ByteArray) (p : Nat) (h : p < s.size) : s.data.toList[p]? = some (s[p]'h) := by
  rw [List.getElem?_eq_getElem (by simpa using h)]
  simp
  rfl

set_option maxHeartbeats 4000000 in
theorem number_any (s : ByteArray) (i0 : Nat) (e : UInt8) (he : e.toNat < 48) (hs : s.size ≤ 20000) (hi : i0 ≤ s.size) (w : World) :
    Calls Tryd.prog 23 #[.string s, .int .i64 (i0 : Int), .int .u8 (e.toNat : Int)] w fun r w' => ∃ n j, r = .returned (.tuple #[.int .i64 n, .int .i64 j]) ∧ NumP s.data.toList i0 e n j ∧ w' = w := by
  have HL : Hid (s.data.toList.length = s.size) := Array.length_toList
  have HE : Hid (¬ isDig e) := by unfold isDig; show ¬ _; omega
  obtain ⟨L, hL⟩ : ∃ L, L = s.data.toList := ⟨_, rfl⟩
  have HAT : Hid (∀ p (h : p < s.size), L[p]? = some (s[p]'h)) := fun p h => by rw [hL]; exact str_at s p h
  rw [← hL] at HL ⊢
  clear hL
  go_enter Tryd.func23, Tryd.ntmps23
  go_wp2_with fail
  go_loopw [8, 9] (fun a i wr => ∃ k p V : Nat, p = i0 + k ∧ p ≤ s.size ∧ k ≤ 18 ∧ i = .int .i64 (p : Int) ∧ a = .int .i64 (V : Int) ∧ V = valL ((L.drop i0).take k) ∧ (∀ b ∈ (L.drop i0).take k, isDig b) ∧ wr = w) (fun _ i _ => s.size - (intOf i).toNat)
  case atStart => exact ⟨0, i0, 0, by omega, by omega, by omega, rfl, rfl, by simp [valL], by simp, rfl⟩
  case round =>
    obtain ⟨k, p, V, hp, hk, h18, rfl, rfl, hV, hd, rfl⟩ := hrel
    have HD : Hid (∀ b ∈ (L.drop i0).take k, isDig b) := hd
    have HP : Hid (p = i0 + k) := hp
    have HVV : Hid (V = valL ((L.drop i0).take k)) := hV
    clear hd hV hp
    by_cases hlt : p < s.size
    · have hlt2 : (p : Int) < (s.size : Int) := by omega
      have hi2 : i0 < s.size := by have := HP.out; omega
      have hi3 : (i0 : Int) < (s.size : Int) := by omega
      obtain ⟨b, hb⟩ : ∃ b : UInt8, s[p]'hlt = b := ⟨_, rfl⟩
      obtain ⟨f, hf⟩ : ∃ f : UInt8, s[i0]'hi2 = f := ⟨_, rfl⟩
      have XB : Hid ((L.drop i0)[k]? = some b) := by
        show _ = _
        rw [List.getElem?_drop, ← HP.out, HAT.out p hlt, hb]
      have XF : Hid ((L.drop i0)[0]? = some f) := by
        show _ = _
        rw [List.getElem?_drop, Nat.add_zero, HAT.out i0 hi2, hf]
      have hbn : b.toNat < 256 := UInt8.toNat_lt b
      by_cases hbe : b = e
      · have t1 : ((b.toNat : Int) == (e.toNat : Int)) = true := by rw [hbe]; simp
        by_cases hyes : 0 < k ∧ (f ≠ 48 ∨ k = 1)
        · obtain ⟨y1, y2⟩ := yes_num (e := e) HD.out hyes.1 h18 (by rw [← hbe]; exact XB.out) (by
            rw [XF.out]
            rcases hyes.2 with h | h
            · exact .inl (by simpa using h)
            · exact .inr h)
          have HN : Hid (NumP L i0 e (V : Int) ((p : Int) + 1)) := by
            refine .inl ⟨V, p + 1, rfl, by omega, by rw [HVV.out]; exact y1, by have := HP.out; omega, by have := HL.out; omega, ?_⟩
            rw [HVV.out]
            rw [List.drop_drop, ← Nat.add_assoc, ← HP.out] at y2
            exact y2
          have t2 : (i0 : Int) < (p : Int) := by have := HP.out; omega
          clear y1 y2
          by_cases hf48 : f = 48
          · have t3 : ((f.toNat : Int) != 48) = false := by rw [hf48]; rfl
            have t4 : ((p : Int) == (i0 : Int) + 1) = true := by
              have := HP.out
              have h1 : k = 1 := hyes.2.resolve_left (fun h => h hf48)
              simp; omega
            go_wp2_with fail
            go_ret2
            exact ⟨_, _, rfl, HN.out, rfl⟩
          · have t3 : ((f.toNat : Int) != 48) = true := by
              simp
              intro h
              apply hf48
              exact UInt8.toNat_inj.1 (by show f.toNat = 48; omega)
            go_wp2_with fail
            go_ret2
            exact ⟨_, _, rfl, HN.out, rfl⟩
        · have HN : Hid (NumP L i0 e 0 (-1)) := num_none (no_zero HE.out HD.out (by rw [← hbe]; exact XB.out) (by
            by_cases h0 : k = 0
            · exact .inl h0
            · refine .inr ⟨?_, ?_⟩
              · rcases Nat.lt_or_ge 1 k with h | h
                · exact h
                · exact absurd ⟨by omega, .inr (by omega)⟩ hyes
              · rw [XF.out]
                by_cases h48 : f = 48
                · rw [h48]
                · exact absurd ⟨by omega, .inl h48⟩ hyes))
          have t5 : (b.toNat : Int) < 48 := by rw [hbe]; omega
          by_cases h0 : k = 0
          · have t2 : ¬ (i0 : Int) < (p : Int) := by have := HP.out; omega
            go_wp2_with fail
            go_ret2
            exact ⟨_, _, rfl, HN.out, rfl⟩
          · have t2 : (i0 : Int) < (p : Int) := by have := HP.out; omega
            have h48 : f = 48 := by
              by_cases h : f = 48
              · exact h
              · exact absurd ⟨by omega, .inl h⟩ hyes
            have hk1 : k ≠ 1 := fun h => hyes ⟨by omega, .inr h⟩
            have t3 : ((f.toNat : Int) != 48) = false := by rw [h48]; rfl
            have t4 : ((p : Int) == (i0 : Int) + 1) = false := by have := HP.out; simp; omega
            go_wp2_with fail
            go_ret2
            exact ⟨_, _, rfl, HN.out, rfl⟩
      · have t1 : ((b.toNat : Int) == (e.toNat : Int)) = false := by
          simp
          intro h
          exact hbe (UInt8.toNat_inj.1 (by omega))
        by_cases hbd : isDig b
        · have hbd2 := hbd
          unfold isDig at hbd2
          have t5 : ¬ (b.toNat : Int) < 48 := by omega
          have t6 : ¬ (57 : Int) < (b.toNat : Int) := by omega
          by_cases h17 : 17 < k
          · have HN : Hid (NumP L i0 e 0 (-1)) := num_none (no_long HE.out HD.out XB.out hbe (by omega))
            have t7 : (17 : Int) < (p : Int) - (i0 : Int) := by have := HP.out; omega
            go_wp2_with fail
            go_ret2
            exact ⟨_, _, rfl, HN.out, rfl⟩
          · have t7 : ¬ (17 : Int) < (p : Int) - (i0 : Int) := by have := HP.out; omega
            have hkl : k < (L.drop i0).length := (List.getElem?_eq_some_iff.1 XB.out).1
            have HT : Hid ((L.drop i0).take (k + 1) = (L.drop i0).take k ++ [b]) := take_snoc XB.out
            have hVl : V < 10 ^ 17 := by
              have h1 := val_lt k _ (by simp at hkl ⊢; omega) HD.out
              have h2 : 10 ^ k ≤ 10 ^ 17 := Nat.pow_le_pow_right (by decide) (by omega)
              rw [HVV.out]; omega
            have hVl2 : (V : Int) < 100000000000000000 := by omega
            have u1 : wrap64 (10 * (V : Int)) = 10 * V := by unfold wrap64; omega
            have u2 : wrap64 (10 * (V : Int) + ((b.toNat : Int) - 48)) = 10 * V + (b.toNat - 48) := by unfold wrap64; omega
            go_wp2_with fail
            go_roundw
            case rel =>
              refine ⟨k + 1, p + 1, 10 * V + (b.toNat - 48), by have := HP.out; omega, by omega, by omega, by simp, by simp; omega, ?_, ?_, trivial⟩
              · rw [HT.out, val_snoc, ← HVV.out]
              · rw [HT.out]
                intro x hx
                simp only [List.mem_append, List.mem_singleton] at hx
                rcases hx with hx | rfl
                · exact HD.out x hx
                · exact hbd
            case measure => simp [intOf]; omega
        · have HN : Hid (NumP L i0 e 0 (-1)) := num_none (no_byte HE.out HD.out XB.out hbe hbd)
          by_cases h48 : b.toNat < 48
          · have t5 : (b.toNat : Int) < 48 := by omega
            go_wp2_with fail
            go_ret2
            exact ⟨_, _, rfl, HN.out, rfl⟩
          · have t5 : ¬ (b.toNat : Int) < 48 := by omega
            have t6 : (57 : Int) < (b.toNat : Int) := by unfold isDig at hbd; omega
            go_wp2_with fail
            go_ret2
            exact ⟨_, _, rfl, HN.out, rfl⟩
    · have hlt2 : ¬ (p : Int) < (s.size : Int) := by omega
      have HN : Hid (NumP L i0 e 0 (-1)) := num_none (no_end HE.out HD.out (by have := HL.out; have := HP.out; simp; omega))
      go_wp2_with fail
      go_ret2
      exact ⟨_, _, rfl, HN.out, rfl⟩
end Go.Proofs.YtcfcpibamjgodaaDoor
