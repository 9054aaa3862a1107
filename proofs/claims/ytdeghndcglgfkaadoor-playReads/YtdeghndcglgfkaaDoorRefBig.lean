/-
  Contract of the document's own big: a number of decimal digits without noughts ahead, 2^60 at most.
-/
import Derived.Test.YtdeghndcglgfkaaDoorPlayMath
namespace Go.Proofs.YtdeghndcglgfkaaDoor
set_option maxRecDepth 100000
open Go.ChangeShapes Go.WideShapes Go.ChangeAt Go.RowKit

/-- What big answers. -/
def BigP (l : List UInt8) (n : Int) : Prop := (∃ m : Nat, n = m ∧ m ≤ 1152921504606846976 ∧ l = Lib.decDigits m) ∨ (n = -1 ∧ ∀ m : Nat, m ≤ 1152921504606846976 → l ≠ Lib.decDigits m)
theorem str_atB (s : ByteArray) (p : Nat) (h : p < s.size) : s.data.toList[p]? = some (s[p]'h) := by
  rw [List.getElem?_eq_getElem (by simpa using h)]
  simp
  rfl
theorem digV_ge : ∀ (r l : List UInt8), digV l ≤ digV (l ++ r)
  | [], l => by simp
  | b :: r, l => by
    have h1 := digV_ge r (l ++ [b])
    rw [val_snoc] at h1
    rw [List.append_assoc, List.singleton_append] at h1
    omega
theorem digV_take (l : List UInt8) (k : Nat) : digV (l.take k) ≤ digV l := by
  have := digV_ge (l.drop k) (l.take k)
  rwa [List.take_append_drop] at this
/-- No number: the wrong length, or a nought ahead. -/
theorem big_none {l : List UInt8} (h : l.length = 0 ∨ 19 < l.length ∨ (l[0]? = some 48 ∧ 1 < l.length)) : BigP l (-1) := by
  refine .inr ⟨rfl, fun m hm e => ?_⟩
  have h1 := dec_short 18 m (by omega)
  rw [← e] at h1
  rcases h with h | h | ⟨h, h2⟩
  · have := dec_ne m
    rw [← e] at this
    exact this (List.eq_nil_of_length_eq_zero h)
  · omega
  · refine dec_head m (by rw [← e]; exact h2) ?_
    rw [← e, List.head?_eq_getElem?]
    exact h
/-- No number: another byte. -/
theorem big_byte {l : List UInt8} {k : Nat} {b : UInt8} (h : l[k]? = some b) (hb : ¬ isDig b) : BigP l (-1) := by
  refine .inr ⟨rfl, fun m _ e => hb ?_⟩
  rw [e] at h
  exact dec_digit m b (List.mem_of_getElem? h)
/-- No number: too great. -/
theorem big_over {l : List UInt8} {k : Nat} (h : 1152921504606846976 < digV (l.take k)) : BigP l (-1) := by
  refine .inr ⟨rfl, fun m hm e => ?_⟩
  have h1 := digV_take l k
  have h2 := val_dec m
  rw [← e] at h2
  omega
theorem big_yes {l : List UInt8} (h0 : 0 < l.length) (hd : ∀ b ∈ l, isDig b) (hz : l[0]? ≠ some 48 ∨ l.length = 1) (hm : digV l ≤ 1152921504606846976) : BigP l (digV l : Nat) := by
  refine .inl ⟨digV l, rfl, hm, ?_⟩
  refine ((dec_val (l.length - 1) l (by omega) hd ?_).1).symm
  rw [List.head?_eq_getElem?]
  rcases hz with h | h
  · exact .inl h
  · exact .inr (by omega)

set_option maxHeartbeats 4000000 in
theorem big_any (s : ByteArray) (w : World) :
    Calls Tryd.prog 34 #[.string s] w fun r w' => ∃ n, r = .returned (.int .i64 n) ∧ BigP s.data.toList n ∧ w' = w := by
  have HL : Hid (s.data.toList.length = s.size) := Array.length_toList
  obtain ⟨L, hL⟩ : ∃ L, L = s.data.toList := ⟨_, rfl⟩
  have HAT : Hid (∀ p (h : p < s.size), L[p]? = some (s[p]'h)) := fun p h => by rw [hL]; exact str_atB s p h
  rw [← hL] at HL ⊢
  clear hL
  by_cases hz : s.size = 0
  · have HN : Hid (BigP L (-1)) := big_none (.inl (by have := HL.out; omega))
    have t1 : ((s.size : Int) == 0) = true := by rw [hz]; rfl
    clear hz
    go_enter Tryd.func34, Tryd.ntmps34
    go_wp2_with fail
    go_ret
    exact ⟨_, rfl, HN.out, rfl⟩
  have t1 : ((s.size : Int) == 0) = false := beq_eq_false_iff_ne.2 (by omega)
  by_cases h19 : 19 < s.size
  · have HN : Hid (BigP L (-1)) := big_none (.inr (.inl (by have := HL.out; omega)))
    have t2 : (19 : Int) < (s.size : Int) := by omega
    go_enter Tryd.func34, Tryd.ntmps34
    go_wp2_with fail
    go_ret
    exact ⟨_, rfl, HN.out, rfl⟩
  have t2 : ¬ (19 : Int) < (s.size : Int) := by omega
  have h0 : 0 < s.size := by omega
  have h0i : (0 : Int) < (s.size : Int) := by omega
  obtain ⟨f, hf⟩ : ∃ f : UInt8, s[0]'h0 = f := ⟨_, rfl⟩
  have XF : Hid (L[0]? = some f) := by show _ = _; rw [HAT.out 0 h0, hf]
  have hfn : f.toNat < 256 := UInt8.toNat_lt f
  by_cases hbad : f = 48 ∧ 1 < s.size
  · have HN : Hid (BigP L (-1)) := big_none (.inr (.inr ⟨by rw [XF.out, hbad.1], by have := HL.out; omega⟩))
    have t3 : ((f.toNat : Int) == 48) = true := by rw [hbad.1]; rfl
    have t4 : (1 : Int) < (s.size : Int) := by omega
    go_enter Tryd.func34, Tryd.ntmps34
    go_wp2_with fail
    go_ret
    exact ⟨_, rfl, HN.out, rfl⟩
  have HZ : Hid (L[0]? ≠ some 48 ∨ L.length = 1) := by
    by_cases h : f = 48
    · exact .inr (by have := HL.out; have : ¬ 1 < s.size := fun h' => hbad ⟨h, h'⟩; omega)
    · refine .inl ?_
      rw [XF.out]
      simpa using h
  have HGO : Hid (∀ (Q : Prop), (((f.toNat : Int) == 48) = false → Q) → (((f.toNat : Int) == 48) = true → ¬ (1 : Int) < (s.size : Int) → Q) → Q) := by
    intro Q q1 q2
    by_cases h : f = 48
    · exact q2 (by rw [h]; rfl) (by have : ¬ 1 < s.size := fun h' => hbad ⟨h, h'⟩; omega)
    · refine q1 ?_
      simp
      intro h'
      exact h (UInt8.toNat_inj.1 (by show f.toNat = 48; omega))
  clear hbad
  refine HGO.out _ (fun t3 => ?_) (fun t3 t4 => ?_) <;> clear HGO
  all_goals
    go_enter Tryd.func34, Tryd.ntmps34
    go_wp2_with fail
    go_loopw [3, 4] (fun a i wr => ∃ p V : Nat, p ≤ s.size ∧ i = .int .i64 (p : Int) ∧ a = .int .i64 (V : Int) ∧ V = digV (L.take p) ∧ V ≤ 1152921504606846979 ∧ (∀ b ∈ L.take p, isDig b) ∧ wr = w) (fun _ i _ => s.size - (intOf i).toNat)
    case atStart => exact ⟨0, 0, by omega, rfl, rfl, by simp [digV], by omega, by simp, rfl⟩
    case round =>
      obtain ⟨p, V, hp, rfl, rfl, hV, hVb, hd, rfl⟩ := hrel
      have HD : Hid (∀ b ∈ L.take p, isDig b) := hd
      have HVV : Hid (V = digV (L.take p)) := hV
      clear hd hV
      by_cases hlt : p < s.size
      · have hlt2 : (p : Int) < (s.size : Int) := by omega
        obtain ⟨b, hb⟩ : ∃ b : UInt8, s[p]'hlt = b := ⟨_, rfl⟩
        have XB : Hid (L[p]? = some b) := by show _ = _; rw [HAT.out p hlt, hb]
        have hbn : b.toNat < 256 := UInt8.toNat_lt b
        have HT : Hid (L.take (p + 1) = L.take p ++ [b]) := take_snoc XB.out
        by_cases hbd : isDig b
        · have hbd2 := hbd
          unfold isDig at hbd2
          have t5 : ¬ (b.toNat : Int) < 48 := by omega
          have t6 : ¬ (57 : Int) < (b.toNat : Int) := by omega
          by_cases hov : 115292150460684697 < V
          · have HN : Hid (BigP L (-1)) := big_over (k := p + 1) (by rw [HT.out, val_snoc, ← HVV.out]; omega)
            have t7 : (115292150460684697 : Int) < (V : Int) := by omega
            go_wp2_with fail
            go_ret
            exact ⟨_, rfl, HN.out, rfl⟩
          · have t7 : ¬ (115292150460684697 : Int) < (V : Int) := by omega
            have u1 : wrap64 (10 * (V : Int)) = 10 * V := by unfold wrap64; omega
            have u2 : wrap64 (10 * (V : Int) + ((b.toNat : Int) - 48)) = 10 * V + (b.toNat - 48) := by unfold wrap64; omega
            go_wp2_with fail
            go_roundw
            case rel =>
              refine ⟨p + 1, 10 * V + (b.toNat - 48), by omega, by simp, by simp; omega, ?_, by omega, ?_, trivial⟩
              · rw [HT.out, val_snoc, ← HVV.out]
              · rw [HT.out]
                intro x hx
                simp only [List.mem_append, List.mem_singleton] at hx
                rcases hx with hx | rfl
                · exact HD.out x hx
                · exact hbd
            case measure => simp [intOf]; omega
        · have HN : Hid (BigP L (-1)) := big_byte XB.out hbd
          by_cases h48 : b.toNat < 48
          · have t5 : (b.toNat : Int) < 48 := by omega
            go_wp2_with fail
            go_ret
            exact ⟨_, rfl, HN.out, rfl⟩
          · have t5 : ¬ (b.toNat : Int) < 48 := by omega
            have t6 : (57 : Int) < (b.toNat : Int) := by unfold isDig at hbd; omega
            go_wp2_with fail
            go_ret
            exact ⟨_, rfl, HN.out, rfl⟩
      · have hlt2 : ¬ (p : Int) < (s.size : Int) := by omega
        have ek : L.take p = L := List.take_of_length_le (by have := HL.out; omega)
        by_cases hov : 1152921504606846976 < V
        · have HN : Hid (BigP L (-1)) := big_over (k := p) (by rw [← HVV.out]; exact hov)
          have t7 : (1152921504606846976 : Int) < (V : Int) := by omega
          clear ek
          go_wp2_with fail
          go_ret
          exact ⟨_, rfl, HN.out, rfl⟩
        · have HN : Hid (BigP L (V : Int)) := by
            have h1 := HVV.out
            rw [ek] at h1
            have h2 := HD.out
            rw [ek] at h2
            have := big_yes (l := L) (by have := HL.out; omega) h2 HZ.out (by omega)
            rw [← h1] at this
            exact this
          have t7 : ¬ (1152921504606846976 : Int) < (V : Int) := by omega
          clear ek
          go_wp2_with fail
          go_ret
          exact ⟨_, rfl, HN.out, rfl⟩
end Go.Proofs.YtdeghndcglgfkaaDoor
