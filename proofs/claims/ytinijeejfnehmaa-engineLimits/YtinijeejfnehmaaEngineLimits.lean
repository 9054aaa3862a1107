/-
  For every task engine.Limit answers what P16.9 says (the law EngineLimits returns true, and its argument reads as before); no condition.
-/
import Derived.Test.YtinijeejfnehmaaTaskOpen
import Derived.Test.YtinijeejfnehmaaTaskCopy
import Derived.Test.YtinijeejfnehmaaEngineLimitsPartB
import Derived.Test.YtinijeejfnehmaaEngineLimitsPartC
import Derived.WalkKit
import Derived.ProofKit
import Derived.OpenShut
import Derived.ShutString
import Derived.SizedLaws
import Derived.ChangeOld
import Derived.Below
namespace Go.Proofs.Ytinijeejfnehmaa.engineLimits
set_option maxRecDepth 100000
open Go.ChangeShapes Go.WideShapes Go.ChangeAt Go.RowKit

theorem own : ownKnob Try.prog.godebug = none := by kernel_rfl
theorem laidOut : laidOutB Try.prog = true := by kernel_rfl

set_option maxHeartbeats 1000000 in
set_option maxRecDepth 100000 in
theorem walk (v0 : Value) (n0 kd0 sr0 wk0 ev0 bu0 : Int) (es0 : List Ed) (w : World) (hN0 : (i64B n0 ∧ i64B kd0 ∧ i64B sr0) ∧ i64B wk0 ∧ i64B ev0 ∧ i64B bu0) (hR0 : EdR w v0 es0) (hB0 : ∀ x ∈ es0, edB x) (hL0 : es0.length * 24 ≤ 140737488351232) :
    Calls Try.prog 4 #[.agg #[.int .i64 n0, v0, .int .i64 kd0, .int .i64 sr0, .int .i64 wk0, .int .i64 ev0, .int .i64 bu0]] w fun e w' => e = .returned (.bool true) ∧ Below w.heap.size w w' := by
  have _u := hN0
  clear _u
  have _u := hR0
  clear _u
  have _u := hB0
  clear _u
  have _u := hL0
  clear _u
  have HR : Hid (EdR w v0 es0) := hR0
  obtain ⟨a, cap, rfl⟩ := hR0.shape
  have HJ : Hid (∀ X, EdR X (.slice a es0.length cap) es0 → Calls Try.prog 6 #[.agg #[.int .i64 n0, .slice a es0.length cap, .int .i64 kd0, .int .i64 sr0, .int .i64 wk0, .int .i64 ev0, .int .i64 bu0]] X fun e w' => ∃ v', e = .returned (.agg #[.int .i64 n0, v', .int .i64 kd0, .int .i64 sr0, .int .i64 wk0, .int .i64 ev0, .int .i64 bu0]) ∧ EdR w' v' es0 ∧ Below X.heap.size X w') := fun X hX => tasks_any _ es0 n0 kd0 sr0 wk0 ev0 bu0 X hX hL0
  have HC : Hid (∀ X v', EdR X v' es0 → Calls Try.prog 8 #[.agg #[.int .i64 n0, v', .int .i64 kd0, .int .i64 sr0, .int .i64 wk0, .int .i64 ev0, .int .i64 bu0]] X fun e w' => e = .returned (.tuple #[.int .i64 (limE n0 es0 kd0 sr0 wk0 ev0 bu0).1, .int .i64 (limE n0 es0 kd0 sr0 wk0 ev0 bu0).2]) ∧ Below X.heap.size X w') := fun X v' hX => eLimit_any v' es0 n0 kd0 sr0 wk0 ev0 bu0 X hX
  have HF : Hid (∀ X, EdR X (.slice a es0.length cap) es0 → Calls Try.prog 9 #[.agg #[.int .i64 n0, .slice a es0.length cap, .int .i64 kd0, .int .i64 sr0, .int .i64 wk0, .int .i64 ev0, .int .i64 bu0]] X fun e w' => e = .returned (.tuple #[.int .i64 (limE n0 es0 kd0 sr0 wk0 ev0 bu0).1, .int .i64 (limE n0 es0 kd0 sr0 wk0 ev0 bu0).2]) ∧ Below X.heap.size X w') := fun X hX => limitOf_any _ es0 n0 kd0 sr0 wk0 ev0 bu0 X hX
  obtain ⟨W0, hW0⟩ : ∃ W0, W0 = w.alloc (.cells #[.int .i64 n0, .slice a es0.length cap, .int .i64 kd0, .int .i64 sr0, .int .i64 wk0, .int .i64 ev0, .int .i64 bu0] 28) := ⟨_, rfl⟩
  have Q0 : BX 28 W0 w.heap.size #[.int .i64 n0, .slice a es0.length cap, .int .i64 kd0, .int .i64 sr0, .int .i64 wk0, .int .i64 ev0, .int .i64 bu0] := by rw [hW0]; exact BX.new _ _ _
  have B0 : Below w.heap.size w W0 := by rw [hW0]; exact below_alloc _ _
  have s1 : w.heap.size + 1 ≤ W0.heap.size := by rw [hW0]; simp
  have HK : Hid (∀ X, Below W0.heap.size W0 X → BX 28 X w.heap.size #[.int .i64 n0, .slice a es0.length cap, .int .i64 kd0, .int .i64 sr0, .int .i64 wk0, .int .i64 ev0, .int .i64 bu0] ∧ Below w.heap.size w X ∧ EdR X (.slice a es0.length cap) es0) := fun X hX => by
    have hb := B0.trans (hX.mono (show w.heap.size ≤ W0.heap.size by omega))
    exact ⟨Q0.below hX (by omega), hb, HR.out.below hb (Nat.le_refl _)⟩
  have H7 : Hid (∀ X, BX 28 X w.heap.size #[.int .i64 n0, .slice a es0.length cap, .int .i64 kd0, .int .i64 sr0, .int .i64 wk0, .int .i64 ev0, .int .i64 bu0] → X.cell? ⟨w.heap.size, 0, none⟩ = some (.int .i64 n0) ∧ X.cell? ⟨w.heap.size, 1, none⟩ = some (.slice a es0.length cap) ∧ X.cell? ⟨w.heap.size, 2, none⟩ = some (.int .i64 kd0) ∧ X.cell? ⟨w.heap.size, 3, none⟩ = some (.int .i64 sr0) ∧ X.cell? ⟨w.heap.size, 4, none⟩ = some (.int .i64 wk0) ∧ X.cell? ⟨w.heap.size, 5, none⟩ = some (.int .i64 ev0) ∧ X.cell? ⟨w.heap.size, 6, none⟩ = some (.int .i64 bu0)) := fun X q => ⟨q.cell 0, q.cell 1, q.cell 2, q.cell 3, q.cell 4, q.cell 5, q.cell 6⟩
  have A0 : Hid (Below W0.heap.size W0 W0) := Below.refl _ _
  obtain ⟨q0, q1, q2, q3, q4, q5, q6⟩ := H7.out _ Q0
  clear hR0 hB0 Q0 B0
  generalize limE n0 es0 kd0 sr0 wk0 ev0 bu0 = je at *
  have te : (je.1 == je.1) = true := by simp
  have tf : (je.2 == je.2) = true := by simp
  go_enter Try.func4, Try.ntmps4
  go_upto_region 1 with fail
  rw [← hW0]
  clear hW0
  go_wp2_with fail
  refine (HJ.out _ (HK.out _ A0.out).2.2).mono ?_
  rintro e w1 ⟨v', rfl, hv', hb1⟩
  have A1 : Hid (Below W0.heap.size W0 w1) := hb1
  have E1 : Hid (EdR w1 v' es0) := hv'
  obtain ⟨a1, c1, rfl⟩ := hv'.shape
  clear hv' hb1 q0 q1 q2 q3 q4 q5 q6
  go_wp2_with fail
  refine (HC.out _ _ E1.out).mono ?_
  rintro e w2 ⟨rfl, hb2⟩
  have A2 : Hid (Below W0.heap.size W0 w2) := A1.out.trans (hb2.mono A1.out.size)
  obtain ⟨q0, q1, q2, q3, q4, q5, q6⟩ := H7.out _ (HK.out _ A2.out).1
  clear hb2
  go_wp2_with fail
  refine (HF.out _ (HK.out _ A2.out).2.2).mono ?_
  rintro e w3 ⟨rfl, hb3⟩
  have A3 : Hid (Below w.heap.size w w3) := (HK.out _ (A2.out.trans (hb3.mono A2.out.size))).2.1
  clear hb3 q0 q1 q2 q3 q4 q5 q6
  go_wp2_with fail
  go_ret
  exact ⟨rfl, A3.out⟩

set_option maxHeartbeats 400000 in
set_option maxRecDepth 100000 in
theorem lifted (os : Os) (started : os.Started) (H : Type) (enc : TypeId × Value → H) :
    ReturnsInHanded {} Try.checked os 4 .any (Rows.engineLimitsSpec.pre6 enc Try.prog Try.f4 Rows.engineLimitsRow.domain false) (Rows.engineLimitsSpec.post enc Try.prog Try.f4 false true false false) := by
  refine returnsInHanded_of_change_sized (C := Try.checked) own started (by kernel_rfl) Try.func4
    (ChangeSpec.witness6 (enc := enc) (C := Try.checked) false ⟨#[], #[.agg #[.int .i64 0, .slice none 0 0, .int .i64 0, .int .i64 0, .int .i64 0, .int .i64 0, .int .i64 0]], []⟩ 8 (by kernel_rfl) (by kernel_rfl) (by kernel_rfl) (by kernel_rfl)) ?_
  intro W base args ds gs before hval0 hW _ hsz0 _
  have hval : ∀ (j : Nat) t v, Try.f4.params[j]? = some t → args[j]? = some v → Value.okWide Try.prog W .any base t v := hval0
  have hW' := hW
  obtain ⟨p, q, hA0, hV, rfl, hfz, hnd⟩ := hW
  have hA : DataW.TrodAll enc Try.prog W 0 (fun _ => true) true Try.f4.params.toList args.toList ds p := hA0
  have hsz : (DataW.weightsEach Try.prog (Try.f4.params.toList ++ Rows.engineLimitsSpec.plain.varTypes Try.prog) (ds ++ gs)).all (fun x => decide (x ≤ reachBytes)) = true := hsz0
  rw [Try.params4] at hA hval hsz
  obtain ⟨v0, vs0, d0, ds0, p0, q0, hargs, rfl, rfl, h0, r0⟩ := trodAll_cons hA
  obtain ⟨rfl, rfl, rfl⟩ := trodAll_nil r0
  obtain rfl : args = #[v0] := by cases args; simp_all
  obtain ⟨rfl, rfl⟩ := trodVars_none hV
  have k0 := h0
  have lt0 : ∀ x ∈ p0, x.block < W.heap.size := by obtain ⟨m, hm⟩ := k0; exact DataW.trod_lt m _ _ _ hm
  have hw0 : ∀ m ∈ d0.weights Try.prog 28, m ≤ reachBytes := fun m hm => by simpa using List.all_eq_true.1 hsz _ (DataW.weights_mem_each (j := 0) (t := 28) rfl rfl m hm)
  obtain ⟨n0, w0, kd0, sr0, wk0, ev0, bu0, es0, rfl, hN0, hR0, hB0, hL0⟩ := open_task (okWide_struct Try.underlying28 (hval 0 28 v0 rfl rfl)) h0 hw0
  clear hA0 hval0
  refine (walk w0 n0 kd0 sr0 wk0 ev0 bu0 es0 W hN0 hR0 hB0 hL0).mono fun e W' ⟨he, bel⟩ => ?_
  subst he
  exact ⟨_, rfl, _, _, _, [], _, [], hW', trodAll_mk1 (shut_bool Try.underlying4 _), (trodAll_cons_mk (Below.trod laidOut (by kernel_rfl) (of_decide_eq_true (by kernel_rfl)) k0 bel lt0) trodAll_mk0), rfl, bel.frame _, fun h => by cases h⟩

theorem over : Rows.engineLimitsRow.holds Try.pinned (OpenSpec.ofChange Rows.engineLimitsSpec) :=
  OpenClaim.holds_of_wide 4 Try.f4 rfl rfl rfl rfl rfl rfl rfl ⟨rfl, rfl, rfl, rfl, rfl⟩ rfl rfl rfl rfl rfl (by kernel_rfl) Try.func4 (by kernel_rfl)
    (of_decide_eq_true (by kernel_rfl)) (by unfold Func.isWrapper; first | (rw [if_pos (by decide +kernel)]; kernel_rfl) | (rw [if_neg (by decide +kernel)]; exact ⟨rfl, rfl⟩))
    (fun os started H enc _ => lifted os started H enc)

/-- The statement. -/
theorem proved : Rows.EngineLimitsSaid := over
#print axioms proved
end Go.Proofs.Ytinijeejfnehmaa.engineLimits
