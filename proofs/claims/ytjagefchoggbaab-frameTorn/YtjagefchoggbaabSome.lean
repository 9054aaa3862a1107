/-
  Contract of some: a copy of at most so many of the first bytes, in memory of its own; nothing else is written.
-/
import Derived.Test.YtjagefchoggbaabSame
import Derived.Laws.AppendOwnNone
namespace Go.Proofs.Ytjagefchoggbaab
open Go.ChangeShapes Go.WideShapes Go.ChangeAt Go.RowKit

set_option maxHeartbeats 400000 in
theorem some_any (v : Value) (xs : List Int) (m : Nat) (w : World) (h : Reads .u8 w v xs) (hm0 : m ≤ 1000000) :
    Calls Try.prog 6 #[v, .int .i64 m] w fun e w' =>
      ∃ v', e = .returned v' ∧ w'.ownsRow w.heap.size 5 1 v' (xs.take m).length ((xs.take m).map (Value.int .u8)) ∧ Below w.heap.size w w' := by
  obtain ⟨i0, hi, hz0, hz1, hz2⟩ := info_parts Try.info5
  by_cases hn : 0 < xs.length
  · obtain ⟨b, off, cap, rfl, hc, hm, _, hcell⟩ := h.plain hn
    unfold maxLen at hm
    have hl : (xs.take m).length ≤ 1000000 := by simp; omega
    have HN : Hid (∀ (j : Nat) (u : Value), ((xs.take m).map (Value.int IntKind.u8))[j]? = some u → w.cell? ((⟨b, off, none⟩ : Addr).add j) = some u) := fun j u hj => by
      obtain ⟨hj1, rfl⟩ := getD_map hj
      have hj2 : j < m ∧ j < xs.length := by simp at hj1; omega
      have hadd : (⟨b, off, none⟩ : Addr).add j = ⟨b, off + j, none⟩ := by unfold Addr.add; split <;> simp_all
      rw [hadd, hcell j hj2.2, List.getD_eq_getElem?_getD, List.getD_eq_getElem?_getD, List.getElem?_take_of_lt hj2.1]
    clear hcell h
    obtain ⟨n, hn2, hcase⟩ : ∃ n : Nat, (xs.take m).length = n ∧ ((xs.length < m ∧ n = xs.length) ∨ (m < xs.length ∧ n = m) ∨ (m = xs.length ∧ n = m)) := ⟨_, rfl, by simp; omega⟩
    have HL : Hid ((xs.take m).length = n) := hn2
    have hnm : n ≤ 1000000 := by omega
    clear hn2
    have fin : ∀ v' w1, w1.ownsRow w.heap.size 5 1 v' (0 + n) ([] ++ (xs.take m).map (Value.int .u8)) → w.grownBy w1 (Value.ownBlock (.slice none 0 0)) →
        w1.ownsRow w.heap.size 5 1 v' (xs.take m).length ((xs.take m).map (Value.int .u8)) ∧ Below w.heap.size w w1 := fun v' w1 hown hgrow =>
      ⟨by rw [HL.out]; simpa using hown, (Below.refl _ _).grown hgrow (Nat.le_refl _) (fun k hk => by simp [Value.ownBlock] at hk)⟩
    have FIN : Hid _ := fin
    clear fin
    rcases hcase with ⟨h1, rfl⟩ | ⟨h1, rfl⟩ | ⟨h1, rfl⟩
    all_goals try subst h1
    all_goals
      go_enter Try.func6, Try.ntmps6
      go_wp2_with (at_builtin; refine wpList_append_own _ rfl _ _ 23 rfl w.heap.size 5 i0 (.int .u8 0) 1 1 Try.underlying23 hi hz0 hz1 hz2 rfl (by decide) _ 0 [] rfl (World.ownsRow_nil _ _ _ _) ⟨b, off, none⟩ _ cap ((xs.take _).map (Value.int .u8)) rfl (by rw [List.length_map, HL.out, Nat.mul_one]) HN.out (bytes_oneCell _) (by unfold maxLen; omega) (by omega) (Nat.le_refl _) ?_; intro v' w1 hown' hgrow _; have hfin := FIN.out v' w1 hown' hgrow; clear hown' hgrow)
      go_ret
      exact ⟨v', rfl, hfin⟩
  · have : xs = [] := List.eq_nil_of_length_eq_zero (by omega)
    subst this
    obtain ⟨a, cap, rfl, hm, ha⟩ := h.empty
    unfold maxLen at hm
    clear h
    rcases (show m = 0 ∨ 0 < m from by omega) with rfl | h1
    all_goals
      cases a with
      | none =>
        have hcap := ha rfl
        subst hcap
        clear ha
        go_enter Try.func6, Try.ntmps6
        go_wp2_with (at_builtin; refine wpList_append_own_none rfl _ _ 23 rfl w.heap.size 5 i0 1 Try.underlying23 hi _ 0 [] rfl (World.ownsRow_nil _ _ _ _) rfl ?_)
        go_ret
        exact ⟨_, rfl, by simpa using World.ownsRow_nil _ _ _ _, Below.refl _ _⟩
      | some x =>
        clear ha
        go_enter Try.func6, Try.ntmps6
        go_wp2_with fail
        go_ret
        exact ⟨_, rfl, by simpa using World.ownsRow_nil _ _ _ _, Below.refl _ _⟩
end Go.Proofs.Ytjagefchoggbaab
