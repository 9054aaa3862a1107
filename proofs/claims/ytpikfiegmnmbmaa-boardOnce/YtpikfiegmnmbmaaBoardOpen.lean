/-
  Contract of board.Open.
-/
import Derived.Test.YtpikfiegmnmbmaaBoardBar
import Derived.Test.YtpikfiegmnmbmaaBoxFour
import Derived.Deep.CutRange
namespace Go.Proofs.Ytpikfiegmnmbmaa
set_option maxRecDepth 100000
open Go.ChangeShapes Go.WideShapes Go.ChangeAt Go.RowKit

theorem opE_yes {W E S : Int} (h : (1 ≤ W ∧ W ≤ 8) ∧ numB E = true ∧ 0 ≤ S ∧ S ≤ 100000) : opE W E S = 0 := by rw [opE, if_pos h]
theorem opE_no {W E S : Int} (h : ¬ ((1 ≤ W ∧ W ≤ 8) ∧ numB E = true ∧ 0 ≤ S ∧ S ≤ 100000)) : opE W E S = 2 := by rw [opE, if_neg h]
theorem opE_zero {W E S : Int} (h : opE W E S = 0) : (1 ≤ W ∧ W ≤ 8) ∧ numB E = true ∧ 0 ≤ S ∧ S ≤ 100000 := by
  unfold opE at h
  split at h
  · assumption
  · cases h
theorem opE_cases (W E S : Int) : opE W E S = 0 ∨ opE W E S = 2 := by
  unfold opE
  split
  · exact .inl rfl
  · exact .inr rfl
/-- What Open answers: a board, or nothing and an error. -/
def OpP (w : World) (W E S : Int) (e : Ending) (w' : World) : Prop := e = .returned (.tuple #[.agg #[.int .i64 (okN (opE W E S) W), .int .i64 (okN (opE W E S) E), .int .i64 (okN (opE W E S) S), .slice none 0 0], .int .i64 (opE W E S)]) ∧ Below w.heap.size w w'
theorem OpP.no {w w' : World} {W E S : Int} (h : opE W E S = 2) (hb : Below w.heap.size w w') : OpP w W E S (.returned (.tuple #[.agg #[.int .i64 0, .int .i64 0, .int .i64 0, .slice none 0 0], .int .i64 2])) w' := by
  refine ⟨?_, hb⟩
  rw [h]
  rfl
theorem OpP.yes {w w' : World} {W E S : Int} (h : opE W E S = 0) (hb : Below w.heap.size w w') : OpP w W E S (.returned (.tuple #[.agg #[.int .i64 W, .int .i64 E, .int .i64 S, .slice none 0 0], .int .i64 0])) w' := by
  refine ⟨?_, hb⟩
  rw [h]
  rfl
theorem BX.all4f {t : TypeId} {w : World} {q : Nat} {cs : Array Value} (h : BX t w q cs) : w.frozen? ⟨q, 0, none⟩ = false ∧ w.frozen? ⟨q, 1, none⟩ = false ∧ w.frozen? ⟨q, 2, none⟩ = false ∧ w.frozen? ⟨q, 3, none⟩ = false := ⟨h.frozen 0, h.frozen 1, h.frozen 2, h.frozen 3⟩
theorem below_put4 {B : Nat} {w0 w : World} {q : Nat} (h : Below B w0 w) (hq : B ≤ q) (a b c d : Value) : Below B w0 (put4 w q a b c d) := (((h.setCell (p := ⟨q, 0, none⟩) hq a).setCell (p := ⟨q, 1, none⟩) hq b).setCell (p := ⟨q, 2, none⟩) hq c).setCell (p := ⟨q, 3, none⟩) hq d
theorem outside_is {n : Int} {b : Bool} (h : (!numB n) = b) (w : World) : Calls Try.prog 19 #[.int .i64 n] w fun e w' => e = .returned (.bool b) ∧ w' = w := by
  have := outside_any n w
  rwa [h] at this

set_option maxHeartbeats 2000000 in
set_option maxRecDepth 100000 in
theorem bOpen_any (W E S : Int) (w : World) : Calls Try.prog 9 #[.int .i64 W, .int .i64 E, .int .i64 S] w (OpP w W E S) := by
  have HN : Hid (¬ ((1 ≤ W ∧ W ≤ 8) ∧ numB E = true ∧ 0 ≤ S ∧ S ≤ 100000) → ∀ w', Below w.heap.size w w' → OpP w W E S (.returned (.tuple #[.agg #[.int .i64 0, .int .i64 0, .int .i64 0, .slice none 0 0], .int .i64 2])) w') := fun h w' hb => OpP.no (opE_no h) hb
  have HY : Hid ((1 ≤ W ∧ W ≤ 8) ∧ numB E = true ∧ 0 ≤ S ∧ S ≤ 100000 → ∀ w', Below w.heap.size w w' → OpP w W E S (.returned (.tuple #[.agg #[.int .i64 W, .int .i64 E, .int .i64 S, .slice none 0 0], .int .i64 0])) w') := fun h w' hb => OpP.yes (opE_yes h) hb
  generalize OpP w W E S = P at *
  have T1 : Hid (BX 24 (w.alloc (.cells #[.int .i64 0, .int .i64 0, .int .i64 0, .slice none 0 0] 24)) w.heap.size #[.int .i64 0, .int .i64 0, .int .i64 0, .slice none 0 0]) := BX.new _ _ _
  have BH : Hid (Below w.heap.size w (w.alloc (.cells #[.int .i64 0, .int .i64 0, .int .i64 0, .slice none 0 0] 24))) := below_alloc _ _
  obtain ⟨W0, hW0⟩ : ∃ W0, W0 = w.alloc (.cells #[.int .i64 0, .int .i64 0, .int .i64 0, .slice none 0 0] 24) := ⟨_, rfl⟩
  rw [← hW0] at T1 BH
  by_cases h0 : W < 1
  · have _u := h0
    have HE : Hid (∀ w', Below w.heap.size w w' → P (.returned (.tuple #[.agg #[.int .i64 0, .int .i64 0, .int .i64 0, .slice none 0 0], .int .i64 2])) w') := fun w' hb => HN.out (fun h => by omega) w' hb
    clear HN HY
    go_enter Try.func9, Try.ntmps9
    go_upto_region 1 with fail
    rw [← hW0]
    clear hW0
    obtain ⟨t0, t1, t2, t3⟩ := T1.out.all4
    obtain ⟨t4, t5, t6, t7⟩ := T1.out.all4f
    have HX : Hid (P (.returned (.tuple #[.agg #[.int .i64 0, .int .i64 0, .int .i64 0, .slice none 0 0], .int .i64 2])) (put4 W0 w.heap.size (.int .i64 0) (.int .i64 0) (.int .i64 0) (.slice none 0 0))) := HE.out _ (below_put4 BH.out (Nat.le_refl _) _ _ _ _)
    have RX : Hid (BX 24 (put4 W0 w.heap.size (.int .i64 0) (.int .i64 0) (.int .i64 0) (.slice none 0 0)) w.heap.size #[.int .i64 0, .int .i64 0, .int .i64 0, .slice none 0 0]) := BX.put4 T1.out
    go_wp2_with fail
    obtain ⟨r0, r1, r2, r3⟩ := RX.out.all4
    unfold put4 at r0 r1 r2 r3
    exact bodyPost_ret (v := .tuple #[.agg #[.int .i64 0, .int .i64 0, .int .i64 0, .slice none 0 0], .int .i64 2]) (by simp [results, Try.results9, go_sem, r0, r1, r2, r3]) rfl HX.out
  by_cases h1 : 8 < W
  · have _u := h1
    have HE : Hid (∀ w', Below w.heap.size w w' → P (.returned (.tuple #[.agg #[.int .i64 0, .int .i64 0, .int .i64 0, .slice none 0 0], .int .i64 2])) w') := fun w' hb => HN.out (fun h => by omega) w' hb
    clear HN HY
    go_enter Try.func9, Try.ntmps9
    go_upto_region 1 with fail
    rw [← hW0]
    clear hW0
    obtain ⟨t0, t1, t2, t3⟩ := T1.out.all4
    obtain ⟨t4, t5, t6, t7⟩ := T1.out.all4f
    have HX : Hid (P (.returned (.tuple #[.agg #[.int .i64 0, .int .i64 0, .int .i64 0, .slice none 0 0], .int .i64 2])) (put4 W0 w.heap.size (.int .i64 0) (.int .i64 0) (.int .i64 0) (.slice none 0 0))) := HE.out _ (below_put4 BH.out (Nat.le_refl _) _ _ _ _)
    have RX : Hid (BX 24 (put4 W0 w.heap.size (.int .i64 0) (.int .i64 0) (.int .i64 0) (.slice none 0 0)) w.heap.size #[.int .i64 0, .int .i64 0, .int .i64 0, .slice none 0 0]) := BX.put4 T1.out
    go_wp2_with fail
    obtain ⟨r0, r1, r2, r3⟩ := RX.out.all4
    unfold put4 at r0 r1 r2 r3
    exact bodyPost_ret (v := .tuple #[.agg #[.int .i64 0, .int .i64 0, .int .i64 0, .slice none 0 0], .int .i64 2]) (by simp [results, Try.results9, go_sem, r0, r1, r2, r3]) rfl HX.out
  cases hE : numB E
  · have CO : ∀ X, Calls Try.prog 19 #[.int .i64 E] X fun e w' => e = .returned (.bool true) ∧ w' = X := fun X => outside_is (by rw [hE]; rfl) X
    have HE : Hid (∀ w', Below w.heap.size w w' → P (.returned (.tuple #[.agg #[.int .i64 0, .int .i64 0, .int .i64 0, .slice none 0 0], .int .i64 2])) w') := fun w' hb => HN.out (fun h => by have := h.2.1; rw [hE] at this; cases this) w' hb
    clear HN HY
    go_enter Try.func9, Try.ntmps9
    go_upto_region 1 with fail
    rw [← hW0]
    clear hW0
    go_wp2_with fail
    refine (CO _).mono ?_
    rintro e w1 ⟨rfl, e1⟩
    have e1' : W0 = w1 := e1.symm
    subst e1'
    clear e1
    obtain ⟨t0, t1, t2, t3⟩ := T1.out.all4
    obtain ⟨t4, t5, t6, t7⟩ := T1.out.all4f
    have HX : Hid (P (.returned (.tuple #[.agg #[.int .i64 0, .int .i64 0, .int .i64 0, .slice none 0 0], .int .i64 2])) (put4 W0 w.heap.size (.int .i64 0) (.int .i64 0) (.int .i64 0) (.slice none 0 0))) := HE.out _ (below_put4 BH.out (Nat.le_refl _) _ _ _ _)
    have RX : Hid (BX 24 (put4 W0 w.heap.size (.int .i64 0) (.int .i64 0) (.int .i64 0) (.slice none 0 0)) w.heap.size #[.int .i64 0, .int .i64 0, .int .i64 0, .slice none 0 0]) := BX.put4 T1.out
    go_wp2_with fail
    obtain ⟨r0, r1, r2, r3⟩ := RX.out.all4
    unfold put4 at r0 r1 r2 r3
    exact bodyPost_ret (v := .tuple #[.agg #[.int .i64 0, .int .i64 0, .int .i64 0, .slice none 0 0], .int .i64 2]) (by simp [results, Try.results9, go_sem, r0, r1, r2, r3]) rfl HX.out
  have CO : ∀ X, Calls Try.prog 19 #[.int .i64 E] X fun e w' => e = .returned (.bool false) ∧ w' = X := fun X => outside_is (by rw [hE]; rfl) X
  by_cases h2 : S < 0
  · have _u := h2
    have HE : Hid (∀ w', Below w.heap.size w w' → P (.returned (.tuple #[.agg #[.int .i64 0, .int .i64 0, .int .i64 0, .slice none 0 0], .int .i64 2])) w') := fun w' hb => HN.out (fun h => by omega) w' hb
    clear HN HY
    go_enter Try.func9, Try.ntmps9
    go_upto_region 1 with fail
    rw [← hW0]
    clear hW0
    go_wp2_with fail
    refine (CO _).mono ?_
    rintro e w1 ⟨rfl, e1⟩
    have e1' : W0 = w1 := e1.symm
    subst e1'
    clear e1
    obtain ⟨t0, t1, t2, t3⟩ := T1.out.all4
    obtain ⟨t4, t5, t6, t7⟩ := T1.out.all4f
    have HX : Hid (P (.returned (.tuple #[.agg #[.int .i64 0, .int .i64 0, .int .i64 0, .slice none 0 0], .int .i64 2])) (put4 W0 w.heap.size (.int .i64 0) (.int .i64 0) (.int .i64 0) (.slice none 0 0))) := HE.out _ (below_put4 BH.out (Nat.le_refl _) _ _ _ _)
    have RX : Hid (BX 24 (put4 W0 w.heap.size (.int .i64 0) (.int .i64 0) (.int .i64 0) (.slice none 0 0)) w.heap.size #[.int .i64 0, .int .i64 0, .int .i64 0, .slice none 0 0]) := BX.put4 T1.out
    go_wp2_with fail
    obtain ⟨r0, r1, r2, r3⟩ := RX.out.all4
    unfold put4 at r0 r1 r2 r3
    exact bodyPost_ret (v := .tuple #[.agg #[.int .i64 0, .int .i64 0, .int .i64 0, .slice none 0 0], .int .i64 2]) (by simp [results, Try.results9, go_sem, r0, r1, r2, r3]) rfl HX.out
  by_cases h3 : 100000 < S
  · have _u := h3
    have HE : Hid (∀ w', Below w.heap.size w w' → P (.returned (.tuple #[.agg #[.int .i64 0, .int .i64 0, .int .i64 0, .slice none 0 0], .int .i64 2])) w') := fun w' hb => HN.out (fun h => by omega) w' hb
    clear HN HY
    go_enter Try.func9, Try.ntmps9
    go_upto_region 1 with fail
    rw [← hW0]
    clear hW0
    go_wp2_with fail
    refine (CO _).mono ?_
    rintro e w1 ⟨rfl, e1⟩
    have e1' : W0 = w1 := e1.symm
    subst e1'
    clear e1
    obtain ⟨t0, t1, t2, t3⟩ := T1.out.all4
    obtain ⟨t4, t5, t6, t7⟩ := T1.out.all4f
    have HX : Hid (P (.returned (.tuple #[.agg #[.int .i64 0, .int .i64 0, .int .i64 0, .slice none 0 0], .int .i64 2])) (put4 W0 w.heap.size (.int .i64 0) (.int .i64 0) (.int .i64 0) (.slice none 0 0))) := HE.out _ (below_put4 BH.out (Nat.le_refl _) _ _ _ _)
    have RX : Hid (BX 24 (put4 W0 w.heap.size (.int .i64 0) (.int .i64 0) (.int .i64 0) (.slice none 0 0)) w.heap.size #[.int .i64 0, .int .i64 0, .int .i64 0, .slice none 0 0]) := BX.put4 T1.out
    go_wp2_with fail
    obtain ⟨r0, r1, r2, r3⟩ := RX.out.all4
    unfold put4 at r0 r1 r2 r3
    exact bodyPost_ret (v := .tuple #[.agg #[.int .i64 0, .int .i64 0, .int .i64 0, .slice none 0 0], .int .i64 2]) (by simp [results, Try.results9, go_sem, r0, r1, r2, r3]) rfl HX.out
  have HE : Hid (∀ w', Below w.heap.size w w' → P (.returned (.tuple #[.agg #[.int .i64 W, .int .i64 E, .int .i64 S, .slice none 0 0], .int .i64 0])) w') := fun w' hb => HY.out ⟨by omega, hE, by omega⟩ w' hb
  clear HN HY
  go_enter Try.func9, Try.ntmps9
  go_upto_region 1 with fail
  rw [← hW0]
  clear hW0
  go_wp2_with fail
  refine (CO _).mono ?_
  rintro e w1 ⟨rfl, e1⟩
  have e1' : W0 = w1 := e1.symm
  subst e1'
  clear e1
  obtain ⟨t0, t1, t2, t3⟩ := T1.out.all4
  obtain ⟨t4, t5, t6, t7⟩ := T1.out.all4f
  have HX : Hid (P (.returned (.tuple #[.agg #[.int .i64 W, .int .i64 E, .int .i64 S, .slice none 0 0], .int .i64 0])) (put4 W0 w.heap.size (.int .i64 W) (.int .i64 E) (.int .i64 S) (.slice none 0 0))) := HE.out _ (below_put4 BH.out (Nat.le_refl _) _ _ _ _)
  have RX : Hid (BX 24 (put4 W0 w.heap.size (.int .i64 W) (.int .i64 E) (.int .i64 S) (.slice none 0 0)) w.heap.size #[.int .i64 W, .int .i64 E, .int .i64 S, .slice none 0 0]) := BX.put4 T1.out
  go_wp2_with fail
  obtain ⟨r0, r1, r2, r3⟩ := RX.out.all4
  unfold put4 at r0 r1 r2 r3
  exact bodyPost_ret (v := .tuple #[.agg #[.int .i64 W, .int .i64 E, .int .i64 S, .slice none 0 0], .int .i64 0]) (by simp [results, Try.results9, go_sem, r0, r1, r2, r3]) rfl HX.out
end Go.Proofs.Ytpikfiegmnmbmaa
