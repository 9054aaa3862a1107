/-
  Contract of the document's BoardOpened.
-/
import Derived.Test.YtpikfiegmnmbmaaBoardOpen
import Derived.Test.YtpikfiegmnmbmaaInWalk
namespace Go.Proofs.Ytpikfiegmnmbmaa
set_option maxRecDepth 100000
open Go.ChangeShapes Go.WideShapes Go.ChangeAt Go.RowKit

theorem in_isN {v a b : Int} {t : Bool} (h : inB v a b = t) (w : World) : Calls Try.prog 20 #[.int .i64 v, .int .i64 a, .int .i64 b] w fun e w' => e = .returned (.bool t) ∧ w' = w := by
  have := in_any v a b w
  rwa [h] at this

set_option maxHeartbeats 2000000 in
set_option maxRecDepth 100000 in
theorem boardOpened_any (W E S : Int) (w : World) : Calls Try.prog 10 #[.int .i64 W, .int .i64 E, .int .i64 S] w (OpP w W E S) := by
  have HN : Hid (¬ ((1 ≤ W ∧ W ≤ 8) ∧ numB E = true ∧ 0 ≤ S ∧ S ≤ 100000) → ∀ w', Below w.heap.size w w' → OpP w W E S (.returned (.tuple #[.agg #[.int .i64 0, .int .i64 0, .int .i64 0, .slice none 0 0], .int .i64 2])) w') := fun h w' hb => OpP.no (opE_no h) hb
  have HY : Hid ((1 ≤ W ∧ W ≤ 8) ∧ numB E = true ∧ 0 ≤ S ∧ S ≤ 100000 → ∀ w', Below w.heap.size w w' → OpP w W E S (.returned (.tuple #[.agg #[.int .i64 W, .int .i64 E, .int .i64 S, .slice none 0 0], .int .i64 0])) w') := fun h w' hb => OpP.yes (opE_yes h) hb
  generalize OpP w W E S = P at *
  have T1 : Hid (BX 24 (w.alloc (.cells #[.int .i64 0, .int .i64 0, .int .i64 0, .slice none 0 0] 24)) w.heap.size #[.int .i64 0, .int .i64 0, .int .i64 0, .slice none 0 0]) := BX.new _ _ _
  have BH : Hid (Below w.heap.size w (w.alloc (.cells #[.int .i64 0, .int .i64 0, .int .i64 0, .slice none 0 0] 24))) := below_alloc _ _
  obtain ⟨W0, hW0⟩ : ∃ W0, W0 = w.alloc (.cells #[.int .i64 0, .int .i64 0, .int .i64 0, .slice none 0 0] 24) := ⟨_, rfl⟩
  rw [← hW0] at T1 BH
  by_cases h1 : 1 ≤ W ∧ W ≤ 8
  case neg =>
    have C1 : Hid (∀ X, Calls Try.prog 20 #[.int .i64 W, .int .i64 1, .int .i64 8] X fun e w' => e = .returned (.bool false) ∧ w' = X) := fun X => in_isN (in_no h1) X
    have HE : Hid (∀ w', Below w.heap.size w w' → P (.returned (.tuple #[.agg #[.int .i64 0, .int .i64 0, .int .i64 0, .slice none 0 0], .int .i64 2])) w') := fun w' hb => HN.out (fun h => h1 h.1) w' hb
    clear HN HY
    go_enter Try.func10, Try.ntmps10
    go_upto_region 1 with fail
    rw [← hW0]
    clear hW0
    go_wp2_with fail
    refine (C1.out _).mono ?_
    rintro e w1 ⟨rfl, e1⟩
    have e1' : W0 = w1 := e1.symm
    subst e1'
    clear e1
    obtain ⟨t0, t1, t2, t3⟩ := T1.out.all4
    obtain ⟨t4, t5, t6, t7⟩ := T1.out.all4f
    have HX : Hid (P (.returned (.tuple #[.agg #[.int .i64 0, .int .i64 0, .int .i64 0, .slice none 0 0], .int .i64 2])) (put4 W0 w.heap.size (.int .i64 0) (.int .i64 0) (.int .i64 0) (.slice none 0 0))) := HE.out _ (below_put4 BH.out (Nat.le_refl _) _ _ _ _)
    have RX : Hid (BX 24 (put4 W0 w.heap.size (.int .i64 0) (.int .i64 0) (.int .i64 0) (.slice none 0 0)) w.heap.size #[.int .i64 0, .int .i64 0, .int .i64 0, .slice none 0 0]) := BX.put4 T1.out
    go_wp2_with fail
    obtain ⟨r0, r1, r2, r3⟩ := RX.out.all4
    unfold put4 at r0 r1 r2 r3
    exact bodyPost_ret (v := .tuple #[.agg #[.int .i64 0, .int .i64 0, .int .i64 0, .slice none 0 0], .int .i64 2]) (by simp [results, Try.results10, go_sem, r0, r1, r2, r3]) rfl HX.out
  have C1 : Hid (∀ X, Calls Try.prog 20 #[.int .i64 W, .int .i64 1, .int .i64 8] X fun e w' => e = .returned (.bool true) ∧ w' = X) := fun X => in_isN (in_yes h1) X
  by_cases h2 : 0 ≤ E ∧ E ≤ 1099511627776
  case neg =>
    have C2 : Hid (∀ X, Calls Try.prog 20 #[.int .i64 E, .int .i64 0, .int .i64 1099511627776] X fun e w' => e = .returned (.bool false) ∧ w' = X) := fun X => in_isN (in_no h2) X
    have HE : Hid (∀ w', Below w.heap.size w w' → P (.returned (.tuple #[.agg #[.int .i64 0, .int .i64 0, .int .i64 0, .slice none 0 0], .int .i64 2])) w') := fun w' hb => HN.out (fun h => h2 (numB_iff.1 h.2.1)) w' hb
    clear HN HY
    go_enter Try.func10, Try.ntmps10
    go_upto_region 1 with fail
    rw [← hW0]
    clear hW0
    go_wp2_with fail
    refine (C1.out _).mono ?_
    rintro e w1 ⟨rfl, e1⟩
    have e1' : W0 = w1 := e1.symm
    subst e1'
    clear e1
    go_wp2_with fail
    refine (C2.out _).mono ?_
    rintro e w1 ⟨rfl, e1⟩
    have e1' : W0 = w1 := e1.symm
    subst e1'
    clear e1
    obtain ⟨t0, t1, t2, t3⟩ := T1.out.all4
    obtain ⟨t4, t5, t6, t7⟩ := T1.out.all4f
    have HX : Hid (P (.returned (.tuple #[.agg #[.int .i64 0, .int .i64 0, .int .i64 0, .slice none 0 0], .int .i64 2])) (put4 W0 w.heap.size (.int .i64 0) (.int .i64 0) (.int .i64 0) (.slice none 0 0))) := HE.out _ (below_put4 BH.out (Nat.le_refl _) _ _ _ _)
    have RX : Hid (BX 24 (put4 W0 w.heap.size (.int .i64 0) (.int .i64 0) (.int .i64 0) (.slice none 0 0)) w.heap.size #[.int .i64 0, .int .i64 0, .int .i64 0, .slice none 0 0]) := BX.put4 T1.out
    go_wp2_with fail
    obtain ⟨r0, r1, r2, r3⟩ := RX.out.all4
    unfold put4 at r0 r1 r2 r3
    exact bodyPost_ret (v := .tuple #[.agg #[.int .i64 0, .int .i64 0, .int .i64 0, .slice none 0 0], .int .i64 2]) (by simp [results, Try.results10, go_sem, r0, r1, r2, r3]) rfl HX.out
  have C2 : Hid (∀ X, Calls Try.prog 20 #[.int .i64 E, .int .i64 0, .int .i64 1099511627776] X fun e w' => e = .returned (.bool true) ∧ w' = X) := fun X => in_isN (in_yes h2) X
  by_cases h3 : 0 ≤ S ∧ S ≤ 100000
  case neg =>
    have C3 : Hid (∀ X, Calls Try.prog 20 #[.int .i64 S, .int .i64 0, .int .i64 100000] X fun e w' => e = .returned (.bool false) ∧ w' = X) := fun X => in_isN (in_no h3) X
    have HE : Hid (∀ w', Below w.heap.size w w' → P (.returned (.tuple #[.agg #[.int .i64 0, .int .i64 0, .int .i64 0, .slice none 0 0], .int .i64 2])) w') := fun w' hb => HN.out (fun h => h3 h.2.2) w' hb
    clear HN HY
    go_enter Try.func10, Try.ntmps10
    go_upto_region 1 with fail
    rw [← hW0]
    clear hW0
    go_wp2_with fail
    refine (C1.out _).mono ?_
    rintro e w1 ⟨rfl, e1⟩
    have e1' : W0 = w1 := e1.symm
    subst e1'
    clear e1
    go_wp2_with fail
    refine (C2.out _).mono ?_
    rintro e w1 ⟨rfl, e1⟩
    have e1' : W0 = w1 := e1.symm
    subst e1'
    clear e1
    go_wp2_with fail
    refine (C3.out _).mono ?_
    rintro e w1 ⟨rfl, e1⟩
    have e1' : W0 = w1 := e1.symm
    subst e1'
    clear e1
    obtain ⟨t0, t1, t2, t3⟩ := T1.out.all4
    obtain ⟨t4, t5, t6, t7⟩ := T1.out.all4f
    have HX : Hid (P (.returned (.tuple #[.agg #[.int .i64 0, .int .i64 0, .int .i64 0, .slice none 0 0], .int .i64 2])) (put4 W0 w.heap.size (.int .i64 0) (.int .i64 0) (.int .i64 0) (.slice none 0 0))) := HE.out _ (below_put4 BH.out (Nat.le_refl _) _ _ _ _)
    have RX : Hid (BX 24 (put4 W0 w.heap.size (.int .i64 0) (.int .i64 0) (.int .i64 0) (.slice none 0 0)) w.heap.size #[.int .i64 0, .int .i64 0, .int .i64 0, .slice none 0 0]) := BX.put4 T1.out
    go_wp2_with fail
    obtain ⟨r0, r1, r2, r3⟩ := RX.out.all4
    unfold put4 at r0 r1 r2 r3
    exact bodyPost_ret (v := .tuple #[.agg #[.int .i64 0, .int .i64 0, .int .i64 0, .slice none 0 0], .int .i64 2]) (by simp [results, Try.results10, go_sem, r0, r1, r2, r3]) rfl HX.out
  have C3 : Hid (∀ X, Calls Try.prog 20 #[.int .i64 S, .int .i64 0, .int .i64 100000] X fun e w' => e = .returned (.bool true) ∧ w' = X) := fun X => in_isN (in_yes h3) X
  have HE : Hid (∀ w', Below w.heap.size w w' → P (.returned (.tuple #[.agg #[.int .i64 W, .int .i64 E, .int .i64 S, .slice none 0 0], .int .i64 0])) w') := fun w' hb => HY.out ⟨h1, numB_iff.2 h2, h3⟩ w' hb
  clear HN HY
  go_enter Try.func10, Try.ntmps10
  go_upto_region 1 with fail
  rw [← hW0]
  clear hW0
  go_wp2_with fail
  refine (C1.out _).mono ?_
  rintro e w1 ⟨rfl, e1⟩
  have e1' : W0 = w1 := e1.symm
  subst e1'
  clear e1
  go_wp2_with fail
  refine (C2.out _).mono ?_
  rintro e w1 ⟨rfl, e1⟩
  have e1' : W0 = w1 := e1.symm
  subst e1'
  clear e1
  go_wp2_with fail
  refine (C3.out _).mono ?_
  rintro e w1 ⟨rfl, e1⟩
  have e1' : W0 = w1 := e1.symm
  subst e1'
  clear e1
  obtain ⟨t0, t1, t2, t3⟩ := T1.out.all4
  obtain ⟨t4, t5, t6, t7⟩ := T1.out.all4f
  have HX : Hid (P (.returned (.tuple #[.agg #[.int .i64 W, .int .i64 E, .int .i64 S, .slice none 0 0], .int .i64 0])) (put4 W0 w.heap.size (.int .i64 W) (.int .i64 E) (.int .i64 S) (.slice none 0 0))) := HE.out _ (below_put4 BH.out (Nat.le_refl _) _ _ _ _)
  have RX : Hid (BX 24 (put4 W0 w.heap.size (.int .i64 W) (.int .i64 E) (.int .i64 S) (.slice none 0 0)) w.heap.size #[.int .i64 W, .int .i64 E, .int .i64 S, .slice none 0 0]) := BX.put4 T1.out
  go_wp2_with fail
  obtain ⟨r0, r1, r2, r3⟩ := RX.out.all4
  unfold put4 at r0 r1 r2 r3
  exact bodyPost_ret (v := .tuple #[.agg #[.int .i64 W, .int .i64 E, .int .i64 S, .slice none 0 0], .int .i64 0]) (by simp [results, Try.results10, go_sem, r0, r1, r2, r3]) rfl HX.out
end Go.Proofs.Ytpikfiegmnmbmaa
