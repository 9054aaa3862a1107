/-
  Contracts of slices.IndexFunc, slices.ContainsFunc (with varint.outside), slices.IsSorted, cmp.Less and varint.checkList: which error P1.5 names for a list; nothing that was there is written.
-/
import Derived.Test.YtihghhmhgakkaaaSame
import Derived.Deep.QuietTactic
import Derived.BigQuiet
namespace Go.Proofs.Ytihghhmhgakkaaa
set_option maxRecDepth 100000
open Go.ChangeShapes Go.WideShapes Go.ChangeAt Go.RowKit

/-- All numbers lie from 0 to MaxNumber. -/
def AllIn (l : List Int) : Prop := ∀ i, i < l.length → 0 ≤ l.getD i 0 ∧ l.getD i 0 ≤ 1152921504606846976
/-- No number is below the one ahead of it. -/
def Rises (l : List Int) : Prop := ∀ i, i + 1 < l.length → l.getD i 0 ≤ l.getD (i + 1) 0

def outB (n : Int) : Bool := decide (n < 0 ∨ 1152921504606846976 < n)
theorem outB_yes {n : Int} (h : n < 0 ∨ 1152921504606846976 < n) : outB n = true := by simp [outB, h]
theorem outB_no {n : Int} (h : ¬ (n < 0 ∨ 1152921504606846976 < n)) : outB n = false := by simp [outB, h]

set_option maxHeartbeats 400000 in
theorem varOutside_any (n : Int) (w : World) : Calls Try.prog 77 #[.int .i64 n] w fun e w' => e = .returned (.bool (outB n)) ∧ w' = w := by
  by_cases h : n < 0
  · have H : Hid (outB n = true) := outB_yes (by omega)
    go_enter Try.func77, Try.ntmps77
    go_wp2
    go_ret
    exact ⟨ret_bool H.out.symm, rfl⟩
  · by_cases h2 : 1152921504606846976 < n
    · have H : Hid (outB n = true) := outB_yes (by omega)
      go_enter Try.func77, Try.ntmps77
      go_wp2
      go_ret
      exact ⟨ret_bool H.out.symm, rfl⟩
    · have H : Hid (outB n = false) := outB_no (by omega)
      go_enter Try.func77, Try.ntmps77
      go_wp2
      go_ret
      exact ⟨ret_bool H.out.symm, rfl⟩

set_option maxHeartbeats 800000 in
theorem indexFunc_row (b off cap : Nat) (xs : List Int) (w : World) (hm : xs.length ≤ maxLen)
    (hcell : ∀ i, i < xs.length → w.cell? ⟨b, off + i, none⟩ = some (.int .i64 (xs.getD i 0))) :
    Calls Try.prog 93 #[.slice (some ⟨b, off, none⟩) xs.length cap, .func (.func 77) #[] #[]] w fun e w' =>
      ∃ r : Int, e = .returned (.int .i64 r) ∧ ((AllIn xs ∧ r = -1) ∨ (¬ AllIn xs ∧ 0 ≤ r)) ∧ w' = w := by
  unfold maxLen at hm
  have HC : Hid (∀ i, i < xs.length → w.cell? ⟨b, off + i, none⟩ = some (.int .i64 (xs.getD i 0))) := hcell
  clear hcell
  go_enter Try.func93, Try.ntmps93
  go_wp2_with fail
  go_loop [8] (fun i => ∃ k : Nat, k ≤ xs.length ∧ i = .int .i64 k ∧ (∀ i, i < k → 0 ≤ xs.getD i 0 ∧ xs.getD i 0 ≤ 1152921504606846976)) (fun i => xs.length - (intOf i).toNat)
  case atStart => exact ⟨0, by omega, rfl, fun i hi => by omega⟩
  case round =>
    obtain ⟨k, hk, rfl, hs⟩ := hrel
    have HS : Hid (∀ i, i < k → 0 ≤ xs.getD i 0 ∧ xs.getD i 0 ≤ 1152921504606846976) := hs
    clear hs
    by_cases hlt : k < xs.length
    · have d1 := HC.out k hlt
      have HN : Hid (¬ (xs.getD k 0 < 0 ∨ 1152921504606846976 < xs.getD k 0) → ∀ i, i < k + 1 → 0 ≤ xs.getD i 0 ∧ xs.getD i 0 ≤ 1152921504606846976) := fun h i hi => by
        by_cases e : i = k
        · rw [e]; omega
        · exact HS.out i (by omega)
      have HF : Hid ((xs.getD k 0 < 0 ∨ 1152921504606846976 < xs.getD k 0) → ¬ AllIn xs) := fun h h2 => by have := h2 k hlt; omega
      generalize xs.getD k 0 = x at *
      go_wp2_with fail
      refine (varOutside_any x _).mono ?_
      rintro e w' ⟨rfl, rfl⟩
      by_cases hx : x < 0 ∨ 1152921504606846976 < x
      · have HX : Hid (¬ AllIn xs) := HF.out hx
        have hd := outB_yes hx
        rw [hd]
        clear hd hx HF HN
        go_wp2_with fail
        go_ret
        exact ⟨_, rfl, .inr ⟨HX.out, by omega⟩, rfl⟩
      · have hd := outB_no hx
        rw [hd]
        have HN2 : Hid _ := HN.out hx
        clear hd hx HF HN
        go_wp2_with fail
        go_round
        case rel => exact ⟨k + 1, by omega, by go_num, HN2.out⟩
        case measure => simp [intOf]; omega
    · have HA : Hid (AllIn xs) := fun i hi => HS.out i (by omega)
      go_wp2_with fail
      go_ret
      exact ⟨_, rfl, .inl ⟨HA.out, rfl⟩, rfl⟩

set_option maxHeartbeats 400000 in
theorem contains_any (v : Value) (xs : List Int) (w : World) (h : Reads .i64 w v xs) :
    Calls Try.prog 76 #[v, .func (.func 77) #[] #[]] w fun e w' =>
      ∃ r : Bool, e = .returned (.bool r) ∧ ((AllIn xs ∧ r = false) ∨ (¬ AllIn xs ∧ r = true)) ∧ w' = w := by
  by_cases hn : 0 < xs.length
  · obtain ⟨b, off, cap, rfl, hc, hm, _, hcell⟩ := h.plain hn
    clear h
    have HC : Hid (∀ i, i < xs.length → w.cell? ⟨b, off + i, none⟩ = some (.int .i64 (xs.getD i 0))) := hcell
    have HM : Hid (xs.length ≤ maxLen) := Nat.le_trans hc hm
    clear hcell hm
    go_enter Try.func76, Try.ntmps76
    go_wp2_with fail
    refine (indexFunc_row b off cap xs _ HM.out HC.out).mono ?_
    rintro e w' ⟨r, rfl, hr, rfl⟩
    rcases hr with ⟨ha, hr⟩ | ⟨ha, hr⟩
    · have HA : Hid (AllIn xs) := ha
      subst hr
      clear ha
      go_wp2_with fail
      go_ret
      exact ⟨_, rfl, .inl ⟨HA.out, rfl⟩, rfl⟩
    · have HA : Hid (¬ AllIn xs) := ha
      clear ha
      go_wp2_with fail
      go_ret
      exact ⟨_, rfl, .inr ⟨HA.out, rfl⟩, rfl⟩
  · have e1 : xs = [] := List.eq_nil_of_length_eq_zero (by omega)
    subst e1
    obtain ⟨a, c, rfl, _, _⟩ := h.empty
    clear h hn
    have HA : Hid (AllIn []) := fun i hi => by simp at hi
    go_enter Try.func76, Try.ntmps76
    go_wp2
    refine wp_loop_rounds 1 ?_
    rw [rounds_succ]
    go_wp2
    go_ret
    exact ⟨_, rfl, .inl ⟨HA.out, rfl⟩, rfl⟩

set_option maxHeartbeats 400000 in
theorem less_any (x y : Int) (w : World) : Calls Try.prog 94 #[.int .i64 x, .int .i64 y] w fun e w' => e = .returned (.bool (decide (x < y))) ∧ w' = w := by
  have hx : (x != x) = false := by simp
  go_enter Try.func94, Try.ntmps94
  go_wp2
  go_ret
  exact ⟨ret_bool (by simp), rfl⟩

set_option maxHeartbeats 800000 in
theorem isSorted_row (b off cap : Nat) (xs : List Int) (w : World) (hn : 0 < xs.length) (hm : xs.length ≤ maxLen) (hb : b < w.heap.size)
    (hcell : ∀ i, i < xs.length → w.cell? ⟨b, off + i, none⟩ = some (.int .i64 (xs.getD i 0))) :
    Calls Try.prog 78 #[.slice (some ⟨b, off, none⟩) xs.length cap] w fun e w' =>
      ∃ r : Bool, e = .returned (.bool r) ∧ ((Rises xs ∧ r = true) ∨ (¬ Rises xs ∧ r = false)) ∧ Below w.heap.size w w' := by
  unfold maxLen at hm
  have HC : Hid (∀ i, i < xs.length → w.cell? ⟨b, off + i, none⟩ = some (.int .i64 (xs.getD i 0))) := hcell
  clear hcell
  go_enter Try.func78, Try.ntmps78
  go_wp2_with fail
  go_loopw [3] (fun i wr => ∃ k : Nat, k < xs.length ∧ i = .int .i64 k ∧ (∀ i, k ≤ i → i + 1 < xs.length → xs.getD i 0 ≤ xs.getD (i + 1) 0) ∧ Below w.heap.size w wr) (fun i _ => (intOf i).toNat)
  case atStart => exact ⟨xs.length - 1, by omega, by go_num, fun i hi => by omega, Below.refl _ _⟩
  case round =>
    obtain ⟨k, hk, rfl, hs, hbel⟩ := hrel
    have HS : Hid (∀ i, k ≤ i → i + 1 < xs.length → xs.getD i 0 ≤ xs.getD (i + 1) 0) := hs
    clear hs
    by_cases hlt : 0 < k
    · obtain ⟨j, rfl⟩ : ∃ j, k = j + 1 := ⟨k - 1, by omega⟩
      have d1 : wr.cell? ⟨b, off + (j + 1), none⟩ = some (.int .i64 (xs.getD (j + 1) 0)) := (hbel.cell (by exact hb)).trans (HC.out (j + 1) hk)
      have d2 : wr.cell? ⟨b, off + j, none⟩ = some (.int .i64 (xs.getD j 0)) := (hbel.cell (by exact hb)).trans (HC.out j (by omega))
      have HN : Hid (¬ xs.getD (j + 1) 0 < xs.getD j 0 → ∀ i, j ≤ i → i + 1 < xs.length → xs.getD i 0 ≤ xs.getD (i + 1) 0) := fun h i hi h2 => by
        by_cases e : i = j
        · rw [e]; omega
        · exact HS.out i (by omega) h2
      have HF : Hid (xs.getD (j + 1) 0 < xs.getD j 0 → ¬ Rises xs) := fun h h2 => by have := h2 j hk; omega
      generalize xs.getD (j + 1) 0 = x at *
      generalize xs.getD j 0 = y at *
      have i1 : (j : Int) + 1 < (xs.length : Int) := by omega
      have i2 : (j : Int) < (xs.length : Int) := by omega
      have i3 : (0 : Int) ≤ (j : Int) := by omega
      go_wp2_with fail
      go_quiet ((go_at_call 94; exact Calls.quiet_of_same (less_any _ _ _)))
      by_cases hxy : x < y
      · have HX : Hid (¬ Rises xs) := HF.out hxy
        go_wp2_with fail
        go_ret
        exact ⟨_, rfl, .inr ⟨HX.out, rfl⟩, below_drewN hbel _⟩
      · have HX : Hid _ := HN.out (by omega)
        go_wp2_with fail
        go_roundw
        case rel => exact ⟨j, by omega, by go_num, HX.out, below_drewN hbel _⟩
        case measure => simp [intOf]
    · have HR : Hid (Rises xs) := fun i hi => HS.out i (by omega) hi
      go_wp2_with fail
      go_ret
      exact ⟨_, rfl, .inl ⟨HR.out, rfl⟩, hbel⟩

set_option maxHeartbeats 400000 in
theorem isSorted_any (v : Value) (xs : List Int) (w : World) (h : Reads .i64 w v xs) :
    Calls Try.prog 78 #[v] w fun e w' =>
      ∃ r : Bool, e = .returned (.bool r) ∧ ((Rises xs ∧ r = true) ∨ (¬ Rises xs ∧ r = false)) ∧ Below w.heap.size w w' := by
  by_cases hn : 0 < xs.length
  · obtain ⟨b, off, cap, rfl, hc, hm, hb, hcell⟩ := h.plain hn
    exact isSorted_row b off cap xs w hn (Nat.le_trans hc hm) hb hcell
  · have e1 : xs = [] := List.eq_nil_of_length_eq_zero (by omega)
    subst e1
    obtain ⟨a, c, rfl, _, _⟩ := h.empty
    clear h hn
    have HA : Hid (Rises []) := fun i hi => by simp at hi
    go_enter Try.func78, Try.ntmps78
    go_wp2_with fail
    refine wp_loop_rounds 1 ?_
    rw [rounds_succ]
    go_wp2
    go_ret
    exact ⟨_, rfl, .inl ⟨HA.out, rfl⟩, Below.refl _ _⟩

/-- Which error P1.5 names for a list (0: none). -/
def Named (l : List Int) (c : Int) : Prop :=
  (c = 1 ∧ 2000 < l.length) ∨ (c = 2 ∧ l.length ≤ 2000 ∧ ¬ AllIn l) ∨ (c = 3 ∧ l.length ≤ 2000 ∧ AllIn l ∧ ¬ Rises l) ∨ (c = 0 ∧ l.length ≤ 2000 ∧ AllIn l ∧ Rises l)

set_option maxHeartbeats 400000 in
theorem checkList_any (v : Value) (xs : List Int) (w : World) (h : Reads .i64 w v xs) :
    Calls Try.prog 59 #[v] w fun e w' => ∃ c : Int, e = .returned (.int .i64 c) ∧ Named xs c ∧ Below w.heap.size w w' := by
  have HR : Hid (Reads .i64 w v xs) := h
  obtain ⟨a, cap, rfl, hc, hm, _, _⟩ := h
  unfold maxLen at hm
  by_cases hl : 2000 < xs.length
  · have HN : Hid (Named xs 1) := .inl ⟨rfl, hl⟩
    generalize xs.length = n at *
    go_enter Try.func59, Try.ntmps59
    go_wp2_with fail
    go_ret
    exact ⟨_, rfl, HN.out, Below.refl _ _⟩
  · have H2 : Hid (¬ AllIn xs → Named xs 2) := fun h => .inr (.inl ⟨rfl, by omega, h⟩)
    have H3 : Hid (AllIn xs → ¬ Rises xs → Named xs 3) := fun h h2 => .inr (.inr (.inl ⟨rfl, by omega, h, h2⟩))
    have H0 : Hid (AllIn xs → Rises xs → Named xs 0) := fun h h2 => .inr (.inr (.inr ⟨rfl, by omega, h, h2⟩))
    generalize xs.length = n at *
    go_enter Try.func59, Try.ntmps59
    go_wp2_with fail
    refine (contains_any _ xs _ HR.out).mono ?_
    rintro e w' ⟨r, rfl, hr, rfl⟩
    rcases hr with ⟨ha, rfl⟩ | ⟨ha, rfl⟩
    · have HA : Hid (AllIn xs) := ha
      clear ha
      go_wp2_with fail
      refine (isSorted_any _ xs _ HR.out).mono ?_
      rintro e w2 ⟨r, rfl, hr, hbel⟩
      rcases hr with ⟨hs, rfl⟩ | ⟨hs, rfl⟩
      · have HN : Hid (Named xs 0) := H0.out HA.out hs
        clear hs
        go_wp2_with fail
        go_ret
        exact ⟨_, rfl, HN.out, hbel⟩
      · have HN : Hid (Named xs 3) := H3.out HA.out hs
        clear hs
        go_wp2_with fail
        go_ret
        exact ⟨_, rfl, HN.out, hbel⟩
    · have HN : Hid (Named xs 2) := H2.out ha
      clear ha
      go_wp2_with fail
      go_ret
      exact ⟨_, rfl, HN.out, Below.refl _ _⟩
end Go.Proofs.Ytihghhmhgakkaaa
