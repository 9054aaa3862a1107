/-
  Contract of rounds.Check.
-/
import Derived.Test.YtinijeejfnehmaaRefJob0
import Derived.Test.YtinijeejfnehmaaCheckFace
import Derived.Test.YtinijeejfnehmaaProgOpen
import Derived.Test.YtinijeejfnehmaaBoxMem
import Derived.Deep.CutRange
namespace Go.Proofs.Ytinijeejfnehmaa
set_option maxRecDepth 100000
open Go.ChangeShapes Go.WideShapes Go.ChangeAt Go.RowKit

set_option maxHeartbeats 1000000 in
set_option maxRecDepth 100000 in
theorem rCheck_any (v : Value) (es : List Ed) (n k s : Int) (w : World) (h : EdR w v es) :
    Calls Try.prog 10 #[.agg #[.int .i64 n, v, .int .i64 k, .int .i64 s]] w fun e w' => e = .returned (.int .i64 (jobE n es k s)) ∧ Below w.heap.size w w' := by
  have HR : Hid (EdR w v es) := h
  obtain ⟨a, cap, rfl, _, _, _, _⟩ := h
  have HCK : Hid (∀ X, EdR X (.slice a es.length cap) es → Calls Try.prog 19 #[.agg #[.int .i64 n, .slice a es.length cap]] X fun e w' => e = .returned (.int .i64 (faultE n es)) ∧ Below X.heap.size X w') := fun X hX => check_any _ es n X hX
  obtain ⟨W0, hW0⟩ : ∃ W0, W0 = w.alloc (.cells #[.int .i64 n, .slice a es.length cap, .int .i64 k, .int .i64 s] 26) := ⟨_, rfl⟩
  have Q0 : BX 26 W0 w.heap.size #[.int .i64 n, .slice a es.length cap, .int .i64 k, .int .i64 s] := by rw [hW0]; exact BX.new _ _ _
  have BH : Hid (Below w.heap.size w W0) := by show Below _ _ _; rw [hW0]; exact below_alloc _ _
  have s1 : w.heap.size + 1 ≤ W0.heap.size := by rw [hW0]; simp
  have HK : Hid (∀ X, Below W0.heap.size W0 X → BX 26 X w.heap.size #[.int .i64 n, .slice a es.length cap, .int .i64 k, .int .i64 s] ∧ Below w.heap.size w X) := fun X hX => ⟨Q0.below hX (by omega), BH.out.trans (hX.mono (by omega))⟩
  have R0 : Hid (EdR W0 (.slice a es.length cap) es) := HR.out.below BH.out (Nat.le_refl _)
  obtain ⟨q0, q1, q2, q3⟩ := Q0.all4
  clear Q0
  by_cases hf : faultE n es = 0
  · rw [hf] at HCK
    by_cases hk : 1 ≤ k ∧ k ≤ 3
    · have CW : Hid (∀ X, ∃ x y, Calls Try.prog 20 #[.int .i64 k, .int .i64 0] X fun e w' => e = .returned (.tuple #[.bool x, .bool y, .int .i64 0]) ∧ Below X.heap.size X w') := fun X => by
        rcases (show k = 1 ∨ k = 2 ∨ k = 3 by omega) with rfl | rfl | rfl
        · exact ⟨_, _, waysP_any (false, false) X⟩
        · exact ⟨_, _, waysP_any (false, true) X⟩
        · exact ⟨_, _, waysP_any (true, false) X⟩
      by_cases h1 : k = 1
      · by_cases hs : s < 0
        · have HE : Hid (jobE n es k s = 2) := jobE_src hf h1 (by omega)
          have t1 : (k == 1) = true := by simpa using h1
          clear hk h1
          generalize jobE n es k s = je at *
          clear hf
          go_enter Try.func10, Try.ntmps10
          go_upto_region 1 with fail
          rw [← hW0]
          clear hW0
          go_wp2_with fail
          refine (HCK.out _ R0.out).mono ?_
          rintro e w1 ⟨rfl, hb1⟩
          obtain ⟨Q1, b1⟩ := HK.out _ hb1
          clear q0 q1 q2 q3 HCK
          obtain ⟨q0, q1, q2, q3⟩ := Q1.all4
          have A1 : Hid (Below W0.heap.size W0 w1) := hb1
          clear hb1 Q1 b1
          go_wp2_with fail
          obtain ⟨x, y, cw⟩ := CW.out w1
          refine cw.mono ?_
          rintro e w2 ⟨rfl, hb2⟩
          clear cw
          have A2 : Hid (Below W0.heap.size W0 w2) := A1.out.trans (hb2.mono A1.out.size)
          obtain ⟨Q2, b2⟩ := HK.out _ A2.out
          have B2 : Hid (Below w.heap.size w w2) := b2
          clear q0 q1 q2 q3
          obtain ⟨q0, q1, q2, q3⟩ := Q2.all4
          clear hb2 Q2 b2
          go_wp2_with fail
          go_ret
          exact ⟨by rw [HE.out]; rfl, B2.out⟩
        · by_cases hs2 : s ≥ n
          · have HE : Hid (jobE n es k s = 2) := jobE_src hf h1 (by omega)
            have t1 : (k == 1) = true := by simpa using h1
            clear hk h1
            generalize jobE n es k s = je at *
            clear hf
            go_enter Try.func10, Try.ntmps10
            go_upto_region 1 with fail
            rw [← hW0]
            clear hW0
            go_wp2_with fail
            refine (HCK.out _ R0.out).mono ?_
            rintro e w1 ⟨rfl, hb1⟩
            obtain ⟨Q1, b1⟩ := HK.out _ hb1
            clear q0 q1 q2 q3 HCK
            obtain ⟨q0, q1, q2, q3⟩ := Q1.all4
            have A1 : Hid (Below W0.heap.size W0 w1) := hb1
            clear hb1 Q1 b1
            go_wp2_with fail
            obtain ⟨x, y, cw⟩ := CW.out w1
            refine cw.mono ?_
            rintro e w2 ⟨rfl, hb2⟩
            clear cw
            have A2 : Hid (Below W0.heap.size W0 w2) := A1.out.trans (hb2.mono A1.out.size)
            obtain ⟨Q2, b2⟩ := HK.out _ A2.out
            have B2 : Hid (Below w.heap.size w w2) := b2
            clear q0 q1 q2 q3
            obtain ⟨q0, q1, q2, q3⟩ := Q2.all4
            clear hb2 Q2 b2
            go_wp2_with fail
            go_ret
            exact ⟨by rw [HE.out]; rfl, B2.out⟩
          · have HE : Hid (jobE n es k s = 0) := jobE_ok hf hk fun _ => ⟨by omega, by omega⟩
            have t1 : (k == 1) = true := by simpa using h1
            clear hk h1
            generalize jobE n es k s = je at *
            clear hf
            go_enter Try.func10, Try.ntmps10
            go_upto_region 1 with fail
            rw [← hW0]
            clear hW0
            go_wp2_with fail
            refine (HCK.out _ R0.out).mono ?_
            rintro e w1 ⟨rfl, hb1⟩
            obtain ⟨Q1, b1⟩ := HK.out _ hb1
            clear q0 q1 q2 q3 HCK
            obtain ⟨q0, q1, q2, q3⟩ := Q1.all4
            have A1 : Hid (Below W0.heap.size W0 w1) := hb1
            clear hb1 Q1 b1
            go_wp2_with fail
            obtain ⟨x, y, cw⟩ := CW.out w1
            refine cw.mono ?_
            rintro e w2 ⟨rfl, hb2⟩
            clear cw
            have A2 : Hid (Below W0.heap.size W0 w2) := A1.out.trans (hb2.mono A1.out.size)
            obtain ⟨Q2, b2⟩ := HK.out _ A2.out
            have B2 : Hid (Below w.heap.size w w2) := b2
            clear q0 q1 q2 q3
            obtain ⟨q0, q1, q2, q3⟩ := Q2.all4
            clear hb2 Q2 b2
            go_wp2_with fail
            go_ret
            exact ⟨by rw [HE.out]; rfl, B2.out⟩
      · have HE : Hid (jobE n es k s = 0) := jobE_ok hf hk fun g => absurd g h1
        have t1 : (k == 1) = false := by simpa using h1
        clear hk h1
        generalize jobE n es k s = je at *
        clear hf
        go_enter Try.func10, Try.ntmps10
        go_upto_region 1 with fail
        rw [← hW0]
        clear hW0
        go_wp2_with fail
        refine (HCK.out _ R0.out).mono ?_
        rintro e w1 ⟨rfl, hb1⟩
        obtain ⟨Q1, b1⟩ := HK.out _ hb1
        clear q0 q1 q2 q3 HCK
        obtain ⟨q0, q1, q2, q3⟩ := Q1.all4
        have A1 : Hid (Below W0.heap.size W0 w1) := hb1
        clear hb1 Q1 b1
        go_wp2_with fail
        obtain ⟨x, y, cw⟩ := CW.out w1
        refine cw.mono ?_
        rintro e w2 ⟨rfl, hb2⟩
        clear cw
        have A2 : Hid (Below W0.heap.size W0 w2) := A1.out.trans (hb2.mono A1.out.size)
        obtain ⟨Q2, b2⟩ := HK.out _ A2.out
        have B2 : Hid (Below w.heap.size w w2) := b2
        clear q0 q1 q2 q3
        obtain ⟨q0, q1, q2, q3⟩ := Q2.all4
        clear hb2 Q2 b2
        go_wp2_with fail
        go_ret
        exact ⟨by rw [HE.out]; rfl, B2.out⟩
    · have HE : Hid (jobE n es k s = 3) := jobE_kind hf hk
      have CW : Hid (∀ X, Calls Try.prog 20 #[.int .i64 k, .int .i64 0] X fun e w' => e = .returned (.tuple #[.bool false, .bool false, .int .i64 3]) ∧ Below X.heap.size X w') := fun X => waysP_none ⟨by omega, by omega, by omega, by omega⟩ X
      clear hk
      generalize jobE n es k s = je at *
      clear hf
      go_enter Try.func10, Try.ntmps10
      go_upto_region 1 with fail
      rw [← hW0]
      clear hW0
      go_wp2_with fail
      refine (HCK.out _ R0.out).mono ?_
      rintro e w1 ⟨rfl, hb1⟩
      obtain ⟨Q1, b1⟩ := HK.out _ hb1
      clear q0 q1 q2 q3 HCK
      obtain ⟨q0, q1, q2, q3⟩ := Q1.all4
      have A1 : Hid (Below W0.heap.size W0 w1) := hb1
      clear hb1 Q1 b1
      go_wp2_with fail
      refine (CW.out w1).mono ?_
      rintro e w2 ⟨rfl, hb2⟩
      have A2 : Hid (Below W0.heap.size W0 w2) := A1.out.trans (hb2.mono A1.out.size)
      obtain ⟨Q2, b2⟩ := HK.out _ A2.out
      have B2 : Hid (Below w.heap.size w w2) := b2
      clear q0 q1 q2 q3
      obtain ⟨q0, q1, q2, q3⟩ := Q2.all4
      clear hb2 Q2 b2
      go_wp2_with fail
      go_ret
      exact ⟨by rw [HE.out]; rfl, B2.out⟩
  · have HE : Hid (jobE n es k s = faultE n es) := jobE_bad hf
    generalize jobE n es k s = je at *
    generalize faultE n es = fe at *
    have t0 : (fe != 0) = true := by simpa using hf
    clear hf
    go_enter Try.func10, Try.ntmps10
    go_upto_region 1 with fail
    rw [← hW0]
    clear hW0
    go_wp2_with fail
    refine (HCK.out _ R0.out).mono ?_
    rintro e w1 ⟨rfl, hb1⟩
    have B1 : Hid (Below w.heap.size w w1) := (HK.out _ hb1).2
    clear hb1 q0 q1 q2 q3 HCK
    go_wp2_with fail
    go_ret
    exact ⟨by rw [HE.out]; rfl, B1.out⟩
end Go.Proofs.Ytinijeejfnehmaa
