/-
  Contract of sameInts: it tells whether two slices of ints hold the same numbers; nothing that was there is written.
-/
import Derived.Test.YtneapdndidglcabSame
import Derived.Deep.QuietTactic
import Derived.BigQuiet
namespace Go.Proofs.Ytneapdndidglcab
open Go.ChangeShapes Go.WideShapes Go.ChangeAt Go.RowKit

theorem below_drewN {B : Nat} {a w : World} (h : Below B a w) : ∀ n, Below B a (w.drewN n) := fun _ => ⟨h.os, h.tape, h.output, h.size, h.block⟩

theorem list_eq_of {xs ys : List Int} (hl : xs.length = ys.length) (h : ∀ i, i < xs.length → xs.getD i 0 = ys.getD i 0) : xs = ys := by
  refine List.ext_getElem hl (fun i h1 h2 => ?_)
  have := h i h1
  rwa [List.getD_eq_getElem?_getD, List.getD_eq_getElem?_getD, List.getElem?_eq_getElem h1, List.getElem?_eq_getElem h2] at this

set_option maxHeartbeats 800000 in
theorem sameInts_row (b1 o1 c1 b2 o2 c2 : Nat) (xs ys : List Int) (w : World) (hn : 0 < xs.length) (hl : xs.length = ys.length) (hm : xs.length ≤ maxLen) (hb1 : b1 < w.heap.size) (hb2 : b2 < w.heap.size)
    (h1 : ∀ i, i < xs.length → w.cell? ⟨b1, o1 + i, none⟩ = some (.int .i64 (xs.getD i 0))) (h2 : ∀ i, i < ys.length → w.cell? ⟨b2, o2 + i, none⟩ = some (.int .i64 (ys.getD i 0))) :
    Calls Try.prog 18 #[.slice (some ⟨b1, o1, none⟩) xs.length c1, .slice (some ⟨b2, o2, none⟩) ys.length c2] w fun e w' => e = .returned (.bool (decide (xs = ys))) ∧ Below w.heap.size w w' := by
  unfold maxLen at hm
  have H1 : Hid (∀ i, i < xs.length → w.cell? ⟨b1, o1 + i, none⟩ = some (.int .i64 (xs.getD i 0))) := h1
  have H2 : Hid (∀ i, i < xs.length → w.cell? ⟨b2, o2 + i, none⟩ = some (.int .i64 (ys.getD i 0))) := by rw [hl]; exact h2
  have HE : Hid (xs = ys ↔ ∀ i, i < xs.length → xs.getD i 0 = ys.getD i 0) := ⟨fun h i _ => by rw [h], fun h => list_eq_of hl h⟩
  have HL : Hid (xs.length = ys.length) := hl
  rw [← HL.out]
  clear h1 h2 hl
  go_enter Try.func18, Try.ntmps18
  go_wp2_with fail
  go_loopw [5] (fun i wr => ∃ k : Nat, k ≤ xs.length ∧ i = .int .i64 k ∧ (∀ i, i < k → xs.getD i 0 = ys.getD i 0) ∧ Below w.heap.size w wr) (fun i _ => xs.length - (intOf i).toNat)
  case atStart => exact ⟨0, by omega, rfl, fun i hi => by omega, Below.refl _ _⟩
  case round =>
    obtain ⟨k, hk, rfl, hs, hbel⟩ := hrel
    have HS : Hid (∀ i, i < k → xs.getD i 0 = ys.getD i 0) := hs
    clear hs
    by_cases hlt : k < xs.length
    · have d1 : wr.cell? ⟨b1, o1 + k, none⟩ = some (.int .i64 (xs.getD k 0)) := (hbel.cell (by exact hb1)).trans (H1.out k hlt)
      have d2 : wr.cell? ⟨b2, o2 + k, none⟩ = some (.int .i64 (ys.getD k 0)) := (hbel.cell (by exact hb2)).trans (H2.out k hlt)
      have hlt' : (k : Int) < (xs.length : Int) := by omega
      have h0' : (0 : Int) ≤ (k : Int) := by omega
      have HN : Hid (xs.getD k 0 = ys.getD k 0 → ∀ i, i < k + 1 → xs.getD i 0 = ys.getD i 0) := fun h i hi => by
        by_cases e : i = k
        · rw [e]; exact h
        · exact HS.out i (by omega)
      have HF : Hid (xs.getD k 0 ≠ ys.getD k 0 → decide (xs = ys) = false) := fun h => by
        have : ¬ xs = ys := fun e => h (HE.out.1 e k hlt)
        simp [this]
      generalize xs.getD k 0 = x at *
      generalize ys.getD k 0 = y at *
      go_wp2_with fail
      go_quiet (fail)
      by_cases hxy : x = y
      · have hne : (x != y) = false := by simp [hxy]
        go_wp2_with fail
        go_roundw
        case rel => exact ⟨k + 1, by omega, by go_num, HN.out hxy, below_drewN hbel _⟩
        case measure => simp [intOf]; omega
      · have hne : (x != y) = true := by simp [hxy]
        go_wp2_with fail
        go_ret
        exact ⟨ret_bool (HF.out hxy).symm, below_drewN hbel _⟩
    · have HT : Hid (decide (xs = ys) = true) := by
        have : xs = ys := HE.out.2 (fun i hi => HS.out i (by omega))
        show decide (xs = ys) = true
        simp [this]
      go_wp2_with fail
      go_ret
      exact ⟨ret_bool HT.out.symm, hbel⟩

set_option maxHeartbeats 400000 in
theorem sameInts_any (va vb : Value) (xs ys : List Int) (w : World) (ha : Reads .i64 w va xs) (hb : Reads .i64 w vb ys) :
    Calls Try.prog 18 #[va, vb] w fun e w' => e = .returned (.bool (decide (xs = ys))) ∧ Below w.heap.size w w' := by
  by_cases hl : xs.length = ys.length
  · by_cases hn : 0 < xs.length
    · obtain ⟨b1, o1, c1, rfl, k1, m1, z1, d1⟩ := ha.plain hn
      obtain ⟨b2, o2, c2, rfl, k2, m2, z2, d2⟩ := hb.plain (by omega)
      exact sameInts_row b1 o1 c1 b2 o2 c2 xs ys w hn hl (Nat.le_trans k1 m1) z1 z2 d1 d2
    · have e1 : xs = [] := List.eq_nil_of_length_eq_zero (by omega)
      have e2 : ys = [] := List.eq_nil_of_length_eq_zero (by omega)
      subst e1 e2
      obtain ⟨a, c, rfl, _, _⟩ := ha.empty
      obtain ⟨a', c', rfl, _, _⟩ := hb.empty
      clear ha hb hl hn
      go_enter Try.func18, Try.ntmps18
      go_wp2_with fail
      refine wp_loop_rounds 1 ?_
      rw [rounds_succ]
      go_wp2
      go_ret
      exact ⟨rfl, Below.refl _ _⟩
  · obtain ⟨a, c, rfl, k1, m1, _, _⟩ := ha
    obtain ⟨a', c', rfl, k2, m2, _, _⟩ := hb
    have hne : ((xs.length : Int) != (ys.length : Int)) = true := by simp; omega
    have hx : ¬ xs = ys := fun e => hl (by rw [e])
    have HX : Hid (decide (xs = ys) = false) := by show decide (xs = ys) = false; simp [hx]
    unfold maxLen at m1 m2
    clear hx hl
    generalize xs.length = n1 at *
    generalize ys.length = n2 at *
    go_enter Try.func18, Try.ntmps18
    go_wp2_with fail
    go_ret
    exact ⟨ret_bool HX.out.symm, Below.refl _ _⟩
end Go.Proofs.Ytneapdndidglcab
