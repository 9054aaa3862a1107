/-
  Contract of the document's own JobFault.
-/
import Derived.Test.YtinijeejfnehmaaRefJob0
import Derived.Test.YtinijeejfnehmaaFaultWalk
import Derived.Test.YtinijeejfnehmaaBoxMem
import Derived.Deep.CutRange
namespace Go.Proofs.Ytinijeejfnehmaa
set_option maxRecDepth 100000
open Go.ChangeShapes Go.WideShapes Go.ChangeAt Go.RowKit

set_option maxHeartbeats 1000000 in
set_option maxRecDepth 100000 in
theorem jobFault_any (v : Value) (es : List Ed) (n k s : Int) (w : World) (h : EdR w v es) :
    Calls Try.prog 13 #[.agg #[.int .i64 n, v, .int .i64 k, .int .i64 s]] w fun e w' => e = .returned (.int .i64 (jobE n es k s)) ∧ Below w.heap.size w w' := by
  have HR : Hid (EdR w v es) := h
  obtain ⟨a, cap, rfl, _, _, _, _⟩ := h
  have HCK : Hid (∀ X, EdR X (.slice a es.length cap) es → Calls Try.prog 22 #[.agg #[.int .i64 n, .slice a es.length cap]] X fun e w' => e = .returned (.int .i64 (faultE n es)) ∧ Below X.heap.size X w') := fun X hX => fault_walk _ es n X hX
  obtain ⟨W0, hW0⟩ : ∃ W0, W0 = w.alloc (.cells #[.int .i64 n, .slice a es.length cap, .int .i64 k, .int .i64 s] 26) := ⟨_, rfl⟩
  have Q0 : BX 26 W0 w.heap.size #[.int .i64 n, .slice a es.length cap, .int .i64 k, .int .i64 s] := by rw [hW0]; exact BX.new _ _ _
  have BH : Hid (Below w.heap.size w W0) := by show Below _ _ _; rw [hW0]; exact below_alloc _ _
  have s1 : w.heap.size + 1 ≤ W0.heap.size := by rw [hW0]; simp
  have HK : Hid (∀ X, Below W0.heap.size W0 X → BX 26 X w.heap.size #[.int .i64 n, .slice a es.length cap, .int .i64 k, .int .i64 s] ∧ Below w.heap.size w X) := fun X hX => ⟨Q0.below hX (by omega), BH.out.trans (hX.mono (by omega))⟩
  have R0 : Hid (EdR W0 (.slice a es.length cap) es) := HR.out.below BH.out (Nat.le_refl _)
  obtain ⟨q0, q1, q2, q3⟩ := Q0.all4
  clear Q0
  by_cases hf : faultE n es = 0
  · obtain ⟨hn0, hn1, _, _⟩ := fault_ok hf
    rw [hf] at HCK
    have CK : Hid (∀ X, Calls Try.prog 14 #[.int .i64 k, .int .i64 1, .int .i64 3] X fun e w' => e = .returned (.bool (inB k 1 3)) ∧ w' = X) := fun X => in_any k 1 3 X
    have CS : Hid (∀ X, Calls Try.prog 14 #[.int .i64 s, .int .i64 0, .int .i64 (n - 1)] X fun e w' => e = .returned (.bool (inB s 0 (n - 1))) ∧ w' = X) := fun X => in_any s 0 (n - 1) X
    have wn : IntKind.i64.wrap (n - 1) = n - 1 := wrap_id64 (by omega) (by omega)
    by_cases hk : 1 ≤ k ∧ k ≤ 3
    · rw [show inB k 1 3 = true from inB_iff.2 hk] at CK
      by_cases h1 : k = 1
      · by_cases hs : 0 ≤ s ∧ s < n
        · rw [show inB s 0 (n - 1) = true from inB_iff.2 (by omega)] at CS
          have HE : Hid (jobE n es k s = 0) := jobE_ok hf hk fun _ => hs
          generalize jobE n es k s = je at *
          have t1 : (k == 1) = true := by simpa using h1
          clear hf hs hk h1
          go_enter Try.func13, Try.ntmps13
          go_upto_region 1 with fail
          rw [← hW0]
          clear hW0
          go_wp2_with fail
          refine (HCK.out _ R0.out).mono ?_
          rintro e w1 ⟨rfl, hb1⟩
          obtain ⟨Q1, b1⟩ := HK.out _ hb1
          have B1 : Hid (Below w.heap.size w w1) := b1
          clear q0 q1 q2 q3 HCK
          obtain ⟨q0, q1, q2, q3⟩ := Q1.all4
          clear hb1 Q1 b1
          go_wp2_with fail
          refine (CK.out _).mono ?_
          rintro e w2 ⟨rfl, hw⟩
          replace hw := hw.symm
          subst hw
          go_wp2_with fail
          refine (CS.out _).mono ?_
          rintro e w2 ⟨rfl, hw⟩
          replace hw := hw.symm
          subst hw
          go_wp2_with fail
          go_ret
          exact ⟨by rw [HE.out]; rfl, B1.out⟩
        · rw [show inB s 0 (n - 1) = false from by rw [Bool.eq_false_iff]; intro g; exact hs (by have := inB_iff.1 g; omega)] at CS
          have HE : Hid (jobE n es k s = 2) := jobE_src hf h1 hs
          generalize jobE n es k s = je at *
          have t1 : (k == 1) = true := by simpa using h1
          clear hf hs hk h1
          go_enter Try.func13, Try.ntmps13
          go_upto_region 1 with fail
          rw [← hW0]
          clear hW0
          go_wp2_with fail
          refine (HCK.out _ R0.out).mono ?_
          rintro e w1 ⟨rfl, hb1⟩
          obtain ⟨Q1, b1⟩ := HK.out _ hb1
          have B1 : Hid (Below w.heap.size w w1) := b1
          clear q0 q1 q2 q3 HCK
          obtain ⟨q0, q1, q2, q3⟩ := Q1.all4
          clear hb1 Q1 b1
          go_wp2_with fail
          refine (CK.out _).mono ?_
          rintro e w2 ⟨rfl, hw⟩
          replace hw := hw.symm
          subst hw
          go_wp2_with fail
          refine (CS.out _).mono ?_
          rintro e w2 ⟨rfl, hw⟩
          replace hw := hw.symm
          subst hw
          go_wp2_with fail
          go_ret
          exact ⟨by rw [HE.out]; rfl, B1.out⟩
      · have HE : Hid (jobE n es k s = 0) := jobE_ok hf hk fun g => absurd g h1
        generalize jobE n es k s = je at *
        have t1 : (k == 1) = false := by simpa using h1
        clear hf hk h1
        go_enter Try.func13, Try.ntmps13
        go_upto_region 1 with fail
        rw [← hW0]
        clear hW0
        go_wp2_with fail
        refine (HCK.out _ R0.out).mono ?_
        rintro e w1 ⟨rfl, hb1⟩
        obtain ⟨Q1, b1⟩ := HK.out _ hb1
        have B1 : Hid (Below w.heap.size w w1) := b1
        clear q0 q1 q2 q3 HCK
        obtain ⟨q0, q1, q2, q3⟩ := Q1.all4
        clear hb1 Q1 b1
        go_wp2_with fail
        refine (CK.out _).mono ?_
        rintro e w2 ⟨rfl, hw⟩
        replace hw := hw.symm
        subst hw
        go_wp2_with fail
        go_ret
        exact ⟨by rw [HE.out]; rfl, B1.out⟩
    · rw [show inB k 1 3 = false from by rw [Bool.eq_false_iff]; intro g; exact hk (inB_iff.1 g)] at CK
      have HE : Hid (jobE n es k s = 3) := jobE_kind hf hk
      generalize jobE n es k s = je at *
      clear hf hk
      go_enter Try.func13, Try.ntmps13
      go_upto_region 1 with fail
      rw [← hW0]
      clear hW0
      go_wp2_with fail
      refine (HCK.out _ R0.out).mono ?_
      rintro e w1 ⟨rfl, hb1⟩
      obtain ⟨Q1, b1⟩ := HK.out _ hb1
      have B1 : Hid (Below w.heap.size w w1) := b1
      clear q0 q1 q2 q3 HCK
      obtain ⟨q0, q1, q2, q3⟩ := Q1.all4
      clear hb1 Q1 b1
      go_wp2_with fail
      refine (CK.out _).mono ?_
      rintro e w2 ⟨rfl, hw⟩
      replace hw := hw.symm
      subst hw
      go_wp2_with fail
      go_ret
      exact ⟨by rw [HE.out]; rfl, B1.out⟩
  · have HE : Hid (jobE n es k s = faultE n es) := jobE_bad hf
    generalize jobE n es k s = je at *
    generalize faultE n es = fe at *
    have t0 : (fe != 0) = true := by simpa using hf
    clear hf
    go_enter Try.func13, Try.ntmps13
    go_upto_region 1 with fail
    rw [← hW0]
    clear hW0
    go_wp2_with fail
    refine (HCK.out _ R0.out).mono ?_
    rintro e w1 ⟨rfl, hb1⟩
    have B1 : Hid (Below w.heap.size w w1) := (HK.out _ hb1).2
    clear hb1 q0 q1 q2 q3 HCK
    go_wp2_with fail
    go_ret
    exact ⟨by rw [HE.out]; rfl, B1.out⟩
end Go.Proofs.Ytinijeejfnehmaa
