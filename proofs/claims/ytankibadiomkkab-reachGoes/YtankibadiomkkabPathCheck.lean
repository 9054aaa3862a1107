/-
  Contract of paths.check.
-/
import Derived.Test.YtankibadiomkkabPathErr
import Derived.Test.YtankibadiomkkabCheckFace
import Derived.Test.YtankibadiomkkabBoxMem
import Derived.Deep.CutRange
namespace Go.Proofs.Ytankibadiomkkab
set_option maxRecDepth 100000
open Go.ChangeShapes Go.WideShapes Go.ChangeAt Go.RowKit

set_option maxHeartbeats 1000000 in
set_option maxRecDepth 100000 in
theorem pCheck_any (v : Value) (es : List Ed) (n s : Int) (w : World) (h : EdR w v es) :
    Calls Try.prog 12 #[.agg #[.int .i64 n, v], .int .i64 s] w fun e w' => e = .returned (.int .i64 (errV n es s)) ∧ Below w.heap.size w w' := by
  have HR : Hid (EdR w v es) := h
  obtain ⟨a, cap, rfl, _, _, _, _⟩ := h
  have HCK : Hid (∀ X, EdR X (.slice a es.length cap) es → Calls Try.prog 17 #[.agg #[.int .i64 n, .slice a es.length cap]] X fun e w' => e = .returned (.int .i64 (faultE n es)) ∧ Below X.heap.size X w') := fun X hX => check_any _ es n X hX
  obtain ⟨W0, hW0⟩ : ∃ W0, W0 = w.alloc (.cells #[.int .i64 n, .slice a es.length cap] 25) := ⟨_, rfl⟩
  have Q0 : BX 25 W0 w.heap.size #[.int .i64 n, .slice a es.length cap] := by rw [hW0]; exact BX.new _ _ _
  have BH : Hid (Below w.heap.size w W0) := by show Below _ _ _; rw [hW0]; exact below_alloc _ _
  have s1 : w.heap.size + 1 ≤ W0.heap.size := by rw [hW0]; simp
  have HK : Hid (∀ X, Below W0.heap.size W0 X → BX 25 X w.heap.size #[.int .i64 n, .slice a es.length cap] ∧ Below w.heap.size w X) := fun X hX => ⟨Q0.below hX (by omega), BH.out.trans (hX.mono (by omega))⟩
  have R0 : Hid (EdR W0 (.slice a es.length cap) es) := HR.out.below BH.out (Nat.le_refl _)
  obtain ⟨q0, q1, _⟩ := Q0.all2
  clear Q0
  by_cases hf : faultE n es = 0
  · rw [hf] at HCK
    by_cases h0 : s < 0
    · have HE : Hid (errV n es s = 2) := errV_out hf (by omega)
      generalize errV n es s = ev at *
      clear hf
      go_enter Try.func12, Try.ntmps12
      go_upto_region 1 with fail
      rw [← hW0]
      clear hW0
      go_wp2_with fail
      refine (HCK.out _ R0.out).mono ?_
      rintro e w1 ⟨rfl, hb1⟩
      obtain ⟨Q1, b1⟩ := HK.out _ hb1
      have B1 : Hid (Below w.heap.size w w1) := b1
      clear q0 q1 HCK
      obtain ⟨q0, q1, _⟩ := Q1.all2
      clear hb1 Q1 b1
      go_wp2_with fail
      go_ret
      exact ⟨by rw [HE.out]; rfl, B1.out⟩
    · by_cases h1 : s ≥ n
      · have HE : Hid (errV n es s = 2) := errV_out hf (by omega)
        generalize errV n es s = ev at *
        clear hf
        go_enter Try.func12, Try.ntmps12
        go_upto_region 1 with fail
        rw [← hW0]
        clear hW0
        go_wp2_with fail
        refine (HCK.out _ R0.out).mono ?_
        rintro e w1 ⟨rfl, hb1⟩
        obtain ⟨Q1, b1⟩ := HK.out _ hb1
        have B1 : Hid (Below w.heap.size w w1) := b1
        clear q0 q1 HCK
        obtain ⟨q0, q1, _⟩ := Q1.all2
        clear hb1 Q1 b1
        go_wp2_with fail
        go_ret
        exact ⟨by rw [HE.out]; rfl, B1.out⟩
      · have HE : Hid (errV n es s = 0) := errV_ok hf (by omega)
        generalize errV n es s = ev at *
        clear hf
        go_enter Try.func12, Try.ntmps12
        go_upto_region 1 with fail
        rw [← hW0]
        clear hW0
        go_wp2_with fail
        refine (HCK.out _ R0.out).mono ?_
        rintro e w1 ⟨rfl, hb1⟩
        obtain ⟨Q1, b1⟩ := HK.out _ hb1
        have B1 : Hid (Below w.heap.size w w1) := b1
        clear q0 q1 HCK
        obtain ⟨q0, q1, _⟩ := Q1.all2
        clear hb1 Q1 b1
        go_wp2_with fail
        go_ret
        exact ⟨by rw [HE.out]; rfl, B1.out⟩
  · have HE : Hid (errV n es s = faultE n es) := errV_bad hf
    generalize errV n es s = ev at *
    generalize faultE n es = fe at *
    have t0 : (fe != 0) = true := by simpa using hf
    clear hf
    go_enter Try.func12, Try.ntmps12
    go_upto_region 1 with fail
    rw [← hW0]
    clear hW0
    go_wp2_with fail
    refine (HCK.out _ R0.out).mono ?_
    rintro e w1 ⟨rfl, hb1⟩
    have B1 : Hid (Below w.heap.size w w1) := (HK.out _ hb1).2
    clear hb1 q0 q1 HCK
    go_wp2_with fail
    go_ret
    exact ⟨by rw [HE.out]; rfl, B1.out⟩
end Go.Proofs.Ytankibadiomkkab
