/-
  Contracts of cmp.Less over numbers and slices.IsSorted over slices of numbers.
-/
import Derived.Test.YtbmkgnlfccigpabMayMath
import Derived.Deep.QuietTactic
import Derived.BigQuiet
namespace Go.Proofs.Ytbmkgnlfccigpab
set_option maxRecDepth 100000
open Go.ChangeShapes Go.WideShapes Go.ChangeAt Go.RowKit

set_option maxHeartbeats 400000 in
theorem lessI_any (x y : Int) (w : World) : Calls Try.prog 44 #[.int .i64 x, .int .i64 y] w fun e w' => e = .returned (.bool (decide (x < y))) ∧ w' = w := by
  have hx : (x != x) = false := by simp
  go_enter Try.func44, Try.ntmps44
  go_wp2
  go_ret
  exact ⟨ret_bool (by simp), rfl⟩
theorem ris_no {l : List Int} {a : Nat} {x y : Int} (hx : l[a]? = some x) (hy : l[a + 1]? = some y) (h : y < x) : risB l = false := by
  rw [Bool.eq_false_iff]
  intro g
  unfold risB at g
  have g2 := of_decide_eq_true g
  obtain ⟨h1, rfl⟩ := List.getElem?_eq_some_iff.1 hx
  obtain ⟨h2, rfl⟩ := List.getElem?_eq_some_iff.1 hy
  have := (List.pairwise_iff_getElem.1 g2) a (a + 1) h1 h2 (by omega)
  omega

set_option maxHeartbeats 800000 in
theorem isSortI_row (b off cap : Nat) (xs : List Int) (w : World) (hn : 0 < xs.length) (hm : xs.length ≤ maxLen) (hb : b < w.heap.size)
    (hcell : ∀ i x, xs[i]? = some x → w.cell? ⟨b, off + i, none⟩ = some (.int .i64 x)) :
    Calls Try.prog 34 #[.slice (some ⟨b, off, none⟩) xs.length cap] w fun e w' => e = .returned (.bool (risB xs)) ∧ Below w.heap.size w w' := by
  unfold maxLen at hm
  have HC : Hid (∀ i x, xs[i]? = some x → w.cell? ⟨b, off + i, none⟩ = some (.int .i64 x)) := hcell
  have HY : Hid ((∀ (a : Nat) (x y : Int), xs[a]? = some x → xs[a + 1]? = some y → x ≤ y) → risB xs = true) := fun h => decide_eq_true (adj_ris h)
  have HN : Hid (∀ (a : Nat) (x y : Int), xs[a]? = some x → xs[a + 1]? = some y → y < x → risB xs = false) := fun a x y h1 h2 h3 => ris_no h1 h2 h3
  generalize risB xs = rb at *
  clear hcell
  go_enter Try.func34, Try.ntmps34
  go_wp2_with fail
  go_loopw [3] (fun i wr => ∃ k : Nat, k < xs.length ∧ i = .int .i64 k ∧ (∀ (a : Nat) (x y : Int), k ≤ a → xs[a]? = some x → xs[a + 1]? = some y → x ≤ y) ∧ Below w.heap.size w wr) (fun i _ => (intOf i).toNat)
  case atStart => exact ⟨xs.length - 1, by omega, by go_num, fun a x y hi hx hy => by have := (List.getElem?_eq_some_iff.1 hy).1; omega, Below.refl _ _⟩
  case round =>
    obtain ⟨k, hk, rfl, hs, hbel⟩ := hrel
    have HS : Hid (∀ (a : Nat) (x y : Int), k ≤ a → xs[a]? = some x → xs[a + 1]? = some y → x ≤ y) := hs
    clear hs
    by_cases hlt : 0 < k
    · obtain ⟨j, rfl⟩ : ∃ j, k = j + 1 := ⟨k - 1, by omega⟩
      obtain ⟨x, hx⟩ := getX hk
      obtain ⟨y, hy⟩ := getX (show j < xs.length by omega)
      have d1 : wr.cell? ⟨b, off + (j + 1), none⟩ = some (.int .i64 x) := (hbel.cell (by exact hb)).trans (HC.out (j + 1) x hx)
      have d2 : wr.cell? ⟨b, off + j, none⟩ = some (.int .i64 y) := (hbel.cell (by exact hb)).trans (HC.out j y hy)
      have HG : Hid (¬ x < y → ∀ (a : Nat) (x y : Int), j ≤ a → xs[a]? = some x → xs[a + 1]? = some y → x ≤ y) := fun h a u v ha hu hv => by
        by_cases e : a = j
        · subst e
          rw [hy] at hu
          rw [hx] at hv
          injection hu with hu
          injection hv with hv
          omega
        · exact HS.out a u v (by omega) hu hv
      have HF : Hid (x < y → rb = false) := fun h => HN.out j y x hy hx h
      have i1 : (j : Int) + 1 < (xs.length : Int) := by omega
      have i2 : (j : Int) < (xs.length : Int) := by omega
      have i3 : (0 : Int) ≤ (j : Int) := by omega
      clear hx hy
      go_wp2_with fail
      go_quiet ((go_at_call 44; exact Calls.quiet_of_same (lessI_any _ _ _)))
      by_cases hxy : x < y
      · have HX : Hid (rb = false) := HF.out hxy
        go_wp2_with fail
        go_ret
        exact ⟨by rw [HX.out]; rfl, below_drewN hbel _⟩
      · have HX : Hid _ := HG.out (by omega)
        go_wp2_with fail
        go_roundw
        case rel => exact ⟨j, by omega, by go_num, HX.out, below_drewN hbel _⟩
        case measure => simp [intOf]
    · have HR : Hid (rb = true) := HY.out fun a x y hx hy => HS.out a x y (by omega) hx hy
      go_wp2_with fail
      go_ret
      exact ⟨by rw [HR.out]; rfl, hbel⟩

set_option maxHeartbeats 400000 in
theorem isSortI_any (v : Value) (xs : List Int) (w : World) (h : InR w v xs) :
    Calls Try.prog 34 #[v] w fun e w' => e = .returned (.bool (risB xs)) ∧ Below w.heap.size w w' := by
  by_cases hn : 0 < xs.length
  · obtain ⟨b, off, cap, rfl, hc, hm, hb, hcell⟩ := InR.at h hn
    exact isSortI_row b off cap xs w hn (Nat.le_trans hc hm) hb hcell
  · have e1 : xs = [] := List.eq_nil_of_length_eq_zero (by omega)
    subst e1
    obtain ⟨a, c, rfl, _, _⟩ := h
    have HA : Hid (risB [] = true) := rfl
    generalize risB [] = rb at *
    clear hn
    go_enter Try.func34, Try.ntmps34
    go_wp2_with fail
    refine wp_loop_rounds 1 ?_
    rw [rounds_succ]
    go_wp2
    go_ret
    exact ⟨by rw [HA.out]; rfl, Below.refl _ _⟩
end Go.Proofs.Ytbmkgnlfccigpab
