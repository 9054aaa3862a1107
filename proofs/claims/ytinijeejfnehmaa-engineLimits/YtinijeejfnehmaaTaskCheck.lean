/-
  Contract of engine.Check.
-/
import Derived.Test.YtinijeejfnehmaaTaskMath
import Derived.Test.YtinijeejfnehmaaRndCheck
import Derived.Test.YtinijeejfnehmaaInWalk
import Derived.Deep.CutRange
namespace Go.Proofs.Ytinijeejfnehmaa
set_option maxRecDepth 100000
open Go.ChangeShapes Go.WideShapes Go.ChangeAt Go.RowKit

set_option maxHeartbeats 400000 in
theorem within_any (v b : Int) (w : World) : Calls Try.prog 11 #[.int .i64 v, .int .i64 b] w fun e w' => e = .returned (.bool (inB v 1 b)) ∧ w' = w := by
  unfold inB
  by_cases h0 : 1 ≤ v
  · have e0 : decide (1 ≤ v) = true := by simpa using h0
    rw [e0]
    by_cases h1 : v ≤ b
    · have e1 : decide (v ≤ b) = true := by simpa using h1
      rw [e1]
      go_enter Try.func11, Try.ntmps11
      go_wp2
      go_ret
      exact ⟨rfl, rfl⟩
    · have e1 : decide (v ≤ b) = false := by simpa using h1
      rw [e1]
      go_enter Try.func11, Try.ntmps11
      go_wp2
      go_ret
      exact ⟨rfl, rfl⟩
  · have e0 : decide (1 ≤ v) = false := by simpa using h0
    rw [e0]
    go_enter Try.func11, Try.ntmps11
    go_wp2
    go_ret
    exact ⟨rfl, rfl⟩
set_option maxHeartbeats 2000000 in
set_option maxRecDepth 100000 in
theorem eCheck_any (v : Value) (es : List Ed) (n k s wk ev bu : Int) (w : World) (h : EdR w v es) :
    Calls Try.prog 5 #[.agg #[.int .i64 n, v, .int .i64 k, .int .i64 s, .int .i64 wk, .int .i64 ev, .int .i64 bu]] w fun e w' => e = .returned (.int .i64 (taskE n es k s wk ev bu)) ∧ Below w.heap.size w w' := by
  have HR : Hid (EdR w v es) := h
  obtain ⟨a, cap, rfl⟩ := h.shape
  clear h
  have CJ : Hid (∀ X, EdR X (.slice a es.length cap) es → Calls Try.prog 10 #[.agg #[.int .i64 n, .slice a es.length cap, .int .i64 k, .int .i64 s]] X fun e w' => e = .returned (.int .i64 (jobE n es k s)) ∧ Below X.heap.size X w') := fun X hX => rCheck_any _ es n k s X hX
  have C1 : Hid (∀ X, Calls Try.prog 11 #[.int .i64 wk, .int .i64 8] X fun e w' => e = .returned (.bool (inB wk 1 8)) ∧ w' = X) := fun X => within_any wk 8 X
  have C2 : Hid (∀ X, Calls Try.prog 11 #[.int .i64 ev, .int .i64 100000] X fun e w' => e = .returned (.bool (inB ev 1 100000)) ∧ w' = X) := fun X => within_any ev 100000 X
  have C3 : Hid (∀ X, Calls Try.prog 11 #[.int .i64 bu, .int .i64 1000] X fun e w' => e = .returned (.bool (inB bu 1 1000)) ∧ w' = X) := fun X => within_any bu 1000 X
  obtain ⟨W0, hW0⟩ : ∃ W0, W0 = w.alloc (.cells #[.int .i64 n, .slice a es.length cap, .int .i64 k, .int .i64 s, .int .i64 wk, .int .i64 ev, .int .i64 bu] 28) := ⟨_, rfl⟩
  have Q0 : BX 28 W0 w.heap.size #[.int .i64 n, .slice a es.length cap, .int .i64 k, .int .i64 s, .int .i64 wk, .int .i64 ev, .int .i64 bu] := by rw [hW0]; exact BX.new _ _ _
  have B0 : Below w.heap.size w W0 := by rw [hW0]; exact below_alloc _ _
  have s1 : w.heap.size + 1 ≤ W0.heap.size := by rw [hW0]; simp
  have HK : Hid (∀ X, Below W0.heap.size W0 X → BX 28 X w.heap.size #[.int .i64 n, .slice a es.length cap, .int .i64 k, .int .i64 s, .int .i64 wk, .int .i64 ev, .int .i64 bu] ∧ Below w.heap.size w X ∧ EdR X (.slice a es.length cap) es) := fun X hX => by
    have hb := B0.trans (hX.mono (show w.heap.size ≤ W0.heap.size by omega))
    exact ⟨Q0.below hX (by omega), hb, HR.out.below hb (Nat.le_refl _)⟩
  have A0 : Hid (Below W0.heap.size W0 W0) := Below.refl _ _
  obtain ⟨q0, q1, q2, q3⟩ : _ ∧ _ ∧ _ ∧ _ := ⟨Q0.cell 0, Q0.cell 1, Q0.cell 2, Q0.cell 3⟩
  simp at q0 q1 q2 q3
  clear Q0 B0 HR
  by_cases hj : jobE n es k s = 0
  case neg =>
    have HE : Hid (taskE n es k s wk ev bu = jobE n es k s) := taskE_bad hj
    have t0 : (jobE n es k s != 0) = true := by simp [hj]
    generalize taskE n es k s wk ev bu = te at *
    generalize jobE n es k s = je at *
    clear hj C1 C2 C3
    go_enter Try.func5, Try.ntmps5
    go_upto_region 1 with fail
    rw [← hW0]
    clear hW0
    go_wp2_with fail
    refine (CJ.out _ (HK.out _ A0.out).2.2).mono ?_
    rintro e w1 ⟨rfl, hb1⟩
    obtain ⟨Q1, b1, _⟩ := HK.out _ hb1
    have B1 : Hid (Below w.heap.size w w1) := b1
    clear q0 q1 q2 q3
    clear hb1 Q1 b1
    go_wp2_with fail
    go_ret
    exact ⟨by rw [HE.out]; rfl, B1.out⟩
  rw [hj] at CJ
  by_cases h1 : 1 ≤ wk ∧ wk ≤ 8
  case neg =>
    rw [show inB wk 1 8 = false from in_no h1] at C1
    have HE : Hid (taskE n es k s wk ev bu = 2) := taskE_no hj (fun g => h1 g.1)
    generalize taskE n es k s wk ev bu = te at *
    clear hj h1
    go_enter Try.func5, Try.ntmps5
    go_upto_region 1 with fail
    rw [← hW0]
    clear hW0
    go_wp2_with fail
    refine (CJ.out _ (HK.out _ A0.out).2.2).mono ?_
    rintro e w1 ⟨rfl, hb1⟩
    obtain ⟨Q1, b1, _⟩ := HK.out _ hb1
    have B1 : Hid (Below w.heap.size w w1) := b1
    clear q0 q1 q2 q3
    obtain ⟨q4, q5, q6⟩ : _ ∧ _ ∧ _ := ⟨Q1.cell 4, Q1.cell 5, Q1.cell 6⟩
    simp at q4 q5 q6
    clear hb1 Q1 b1
    go_wp2_with fail
    refine (C1.out _).mono ?_
    rintro e w2 ⟨rfl, hw⟩
    replace hw := hw.symm
    subst hw
    go_wp2_with fail
    go_ret
    exact ⟨by rw [HE.out]; rfl, B1.out⟩
  by_cases h2 : 1 ≤ ev ∧ ev ≤ 100000
  case neg =>
    rw [show inB wk 1 8 = true from in_yes h1] at C1
    rw [show inB ev 1 100000 = false from in_no h2] at C2
    have HE : Hid (taskE n es k s wk ev bu = 2) := taskE_no hj (fun g => h2 g.2.1)
    generalize taskE n es k s wk ev bu = te at *
    clear hj h1 h2
    go_enter Try.func5, Try.ntmps5
    go_upto_region 1 with fail
    rw [← hW0]
    clear hW0
    go_wp2_with fail
    refine (CJ.out _ (HK.out _ A0.out).2.2).mono ?_
    rintro e w1 ⟨rfl, hb1⟩
    obtain ⟨Q1, b1, _⟩ := HK.out _ hb1
    have B1 : Hid (Below w.heap.size w w1) := b1
    clear q0 q1 q2 q3
    obtain ⟨q4, q5, q6⟩ : _ ∧ _ ∧ _ := ⟨Q1.cell 4, Q1.cell 5, Q1.cell 6⟩
    simp at q4 q5 q6
    clear hb1 Q1 b1
    go_wp2_with fail
    refine (C1.out _).mono ?_
    rintro e w2 ⟨rfl, hw⟩
    replace hw := hw.symm
    subst hw
    go_wp2_with fail
    refine (C2.out _).mono ?_
    rintro e w2 ⟨rfl, hw⟩
    replace hw := hw.symm
    subst hw
    go_wp2_with fail
    go_ret
    exact ⟨by rw [HE.out]; rfl, B1.out⟩
  by_cases h3 : 1 ≤ bu ∧ bu ≤ 1000
  case neg =>
    rw [show inB wk 1 8 = true from in_yes h1] at C1
    rw [show inB ev 1 100000 = true from in_yes h2] at C2
    rw [show inB bu 1 1000 = false from in_no h3] at C3
    have HE : Hid (taskE n es k s wk ev bu = 2) := taskE_no hj (fun g => h3 g.2.2)
    generalize taskE n es k s wk ev bu = te at *
    clear hj h1 h2 h3
    go_enter Try.func5, Try.ntmps5
    go_upto_region 1 with fail
    rw [← hW0]
    clear hW0
    go_wp2_with fail
    refine (CJ.out _ (HK.out _ A0.out).2.2).mono ?_
    rintro e w1 ⟨rfl, hb1⟩
    obtain ⟨Q1, b1, _⟩ := HK.out _ hb1
    have B1 : Hid (Below w.heap.size w w1) := b1
    clear q0 q1 q2 q3
    obtain ⟨q4, q5, q6⟩ : _ ∧ _ ∧ _ := ⟨Q1.cell 4, Q1.cell 5, Q1.cell 6⟩
    simp at q4 q5 q6
    clear hb1 Q1 b1
    go_wp2_with fail
    refine (C1.out _).mono ?_
    rintro e w2 ⟨rfl, hw⟩
    replace hw := hw.symm
    subst hw
    go_wp2_with fail
    refine (C2.out _).mono ?_
    rintro e w2 ⟨rfl, hw⟩
    replace hw := hw.symm
    subst hw
    go_wp2_with fail
    refine (C3.out _).mono ?_
    rintro e w2 ⟨rfl, hw⟩
    replace hw := hw.symm
    subst hw
    go_wp2_with fail
    go_ret
    exact ⟨by rw [HE.out]; rfl, B1.out⟩
  rw [show inB wk 1 8 = true from in_yes h1] at C1
  rw [show inB ev 1 100000 = true from in_yes h2] at C2
  rw [show inB bu 1 1000 = true from in_yes h3] at C3
  have HE : Hid (taskE n es k s wk ev bu = 0) := taskE_ok hj ⟨h1, h2, h3⟩
  generalize taskE n es k s wk ev bu = te at *
  clear hj h1 h2 h3
  go_enter Try.func5, Try.ntmps5
  go_upto_region 1 with fail
  rw [← hW0]
  clear hW0
  go_wp2_with fail
  refine (CJ.out _ (HK.out _ A0.out).2.2).mono ?_
  rintro e w1 ⟨rfl, hb1⟩
  obtain ⟨Q1, b1, _⟩ := HK.out _ hb1
  have B1 : Hid (Below w.heap.size w w1) := b1
  clear q0 q1 q2 q3
  obtain ⟨q4, q5, q6⟩ : _ ∧ _ ∧ _ := ⟨Q1.cell 4, Q1.cell 5, Q1.cell 6⟩
  simp at q4 q5 q6
  clear hb1 Q1 b1
  go_wp2_with fail
  refine (C1.out _).mono ?_
  rintro e w2 ⟨rfl, hw⟩
  replace hw := hw.symm
  subst hw
  go_wp2_with fail
  refine (C2.out _).mono ?_
  rintro e w2 ⟨rfl, hw⟩
  replace hw := hw.symm
  subst hw
  go_wp2_with fail
  refine (C3.out _).mono ?_
  rintro e w2 ⟨rfl, hw⟩
  replace hw := hw.symm
  subst hw
  go_wp2_with fail
  go_ret
  exact ⟨by rw [HE.out]; rfl, B1.out⟩
end Go.Proofs.Ytinijeejfnehmaa
