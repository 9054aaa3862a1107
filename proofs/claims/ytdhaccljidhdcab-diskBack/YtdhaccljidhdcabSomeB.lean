/-
  Contract of some: a copy of at most so many of the first bytes, in memory of its own; nothing else is written.
-/
import Derived.Test.YtdhaccljidhdcabBase
namespace Go.Proofs.Ytdhaccljidhdcab
open Go.ChangeShapes Go.WideShapes Go.ChangeAt Go.RowKit

set_option maxHeartbeats 400000 in
theorem some_any (v : Value) (xs : List Int) (m : Nat) (w : World) (h : Reads .u8 w v xs) (hm0 : m ≤ 1000000) :
    Calls Try.prog 9 #[v, .int .i64 m] w fun e w' =>
      ∃ v', e = .returned v' ∧ w'.ownsRow w.heap.size 5 1 v' (xs.take m).length ((xs.take m).map (Value.int .u8)) ∧ Below w.heap.size w w' := by
  obtain ⟨k, hk, hkl, hk1⟩ : ∃ k : Nat, min (xs.length : Int) (m : Int) = (k : Int) ∧ k ≤ xs.length ∧ k ≤ 1000000 := ⟨min xs.length m, by omega, by omega, by omega⟩
  have HT : Hid (xs.take m = xs.take k) := by
    show _ = _
    rcases Nat.le_total xs.length m with h1 | h1
    · have : k = xs.length := by omega
      rw [this, List.take_of_length_le h1, List.take_length]
    · have : k = m := by omega
      rw [this]
  have hlk : (xs.take k).length = k := List.length_take_of_le hkl
  by_cases hn : 0 < xs.length
  · obtain ⟨b, off, cap, rfl, hc, hm, _, hcell⟩ := h.plain hn
    have RT : Hid (Reads .u8 w (.slice (some ⟨b, off, none⟩) k cap) (xs.take k)) := reads_upto hc hm hkl hcell
    unfold maxLen at hm
    clear hcell h
    have hl9 : (xs.take k).length ≤ 1000000 := by omega
    clear hlk
    generalize xs.take k = ys at *
    have e1 : (k : Int) ≤ (cap : Int) := by omega
    have e2 : k ≤ cap := by omega
    go_enter Try.func9, Try.ntmps9
    go_wp2_with (at_builtin; refine wpList_append_reads rfl _ _ rfl w.heap.size _ [] rfl (World.ownsRow_nil _ _ _ _) _ ys rfl RT.out (by simp; omega) (Nat.le_refl _) ?_)
    intro v' w1 hown hbel _
    have O1 : Hid (w1.ownsRow w.heap.size 5 1 v' (xs.take m).length ((xs.take m).map (Value.int .u8))) := by show World.ownsRow _ _ _ _ _ _ _; rw [HT.out]; simpa using hown
    clear hown
    go_wp2_with fail
    go_ret
    exact ⟨v', rfl, O1.out, hbel⟩
  · have : xs = [] := List.eq_nil_of_length_eq_zero (by omega)
    subst this
    have hk0 : k = 0 := by simp at hkl; exact hkl
    subst hk0
    obtain ⟨a, cap, rfl, hm, ha⟩ := h.empty
    have RT : Hid (Reads .u8 w (.slice a 0 cap) []) := h
    unfold maxLen at hm
    clear h hlk HT
    have e3 : min (0 : Int) (m : Int) = 0 := by omega
    cases a with
    | none =>
      have hcap := ha rfl
      subst hcap
      clear ha
      go_enter Try.func9, Try.ntmps9
      go_wp2_with (at_builtin; refine wpList_append_reads rfl _ _ rfl w.heap.size _ [] rfl (World.ownsRow_nil _ _ _ _) _ [] rfl RT.out (by simp) (Nat.le_refl _) ?_)
      intro v' w1 hown hbel _
      go_wp2_with fail
      go_ret
      exact ⟨v', rfl, by simpa using hown, hbel⟩
    | some y =>
      clear ha
      go_enter Try.func9, Try.ntmps9
      go_wp2_with (at_builtin; refine wpList_append_reads rfl _ _ rfl w.heap.size _ [] rfl (World.ownsRow_nil _ _ _ _) _ [] rfl RT.out (by simp) (Nat.le_refl _) ?_)
      intro v' w1 hown hbel _
      go_wp2_with fail
      go_ret
      exact ⟨v', rfl, by simpa using hown, hbel⟩
end Go.Proofs.Ytdhaccljidhdcab
