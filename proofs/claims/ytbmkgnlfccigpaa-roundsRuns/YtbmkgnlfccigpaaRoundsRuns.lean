/-
  For every job rounds.Run answers what P13.6 says (the law RoundsRuns returns true, and its argument reads as before); no condition.
-/
import Derived.Test.YtbmkgnlfccigpaaRoundsRunsPartA
import Derived.Test.YtbmkgnlfccigpaaRoundsRunsPartD
import Derived.Test.YtbmkgnlfccigpaaRoundsRunsPartE
import Derived.WalkKit
import Derived.ProofKit
import Derived.OpenShut
import Derived.ShutString
import Derived.SizedLaws
import Derived.ChangeOld
import Derived.Below
namespace Go.Proofs.Ytbmkgnlfccigpaa.roundsRuns
set_option maxRecDepth 100000
open Go.ChangeShapes Go.WideShapes Go.ChangeAt Go.RowKit

theorem own : ownKnob Try.prog.godebug = none := by kernel_rfl
theorem laidOut : laidOutB Try.prog = true := by kernel_rfl

set_option maxHeartbeats 1000000 in
set_option maxRecDepth 100000 in
theorem walk (v0 : Value) (n0 kd0 sr0 : Int) (es0 : List Ed) (w : World) (hN0 : i64B n0 ∧ i64B kd0 ∧ i64B sr0) (hR0 : EdR w v0 es0) (hB0 : ∀ x ∈ es0, edB x) (hL0 : es0.length * 24 ≤ 140737488351232) :
    Calls Try.prog 4 #[.agg #[.int .i64 n0, v0, .int .i64 kd0, .int .i64 sr0]] w fun e w' => e = .returned (.bool true) ∧ Below w.heap.size w w' := by
  have _u := hN0
  clear _u
  have _u := hR0
  clear _u
  have _u := hB0
  clear _u
  have _u := hL0
  clear _u
  have HR : Hid (EdR w v0 es0) := hR0
  obtain ⟨a, cap, rfl⟩ := hR0.shape
  have HJ : Hid (∀ X, EdR X (.slice a es0.length cap) es0 → Calls Try.prog 10 #[.agg #[.int .i64 n0, .slice a es0.length cap, .int .i64 kd0, .int .i64 sr0]] X fun e w' => ∃ v', e = .returned (.agg #[.int .i64 n0, v', .int .i64 kd0, .int .i64 sr0]) ∧ EdR w' v' es0 ∧ Below X.heap.size X w') := fun X hX => jobs_any _ es0 n0 kd0 sr0 X hX hL0
  have HC : Hid (∀ X v', EdR X v' es0 → Calls Try.prog 13 #[.agg #[.int .i64 n0, v', .int .i64 kd0, .int .i64 sr0]] X (StaP X (ranE n0 es0 kd0 sr0))) := fun X v' hX => rRun_any v' es0 n0 kd0 sr0 X hX
  have HF : Hid (∀ X, EdR X (.slice a es0.length cap) es0 → Calls Try.prog 14 #[.agg #[.int .i64 n0, .slice a es0.length cap, .int .i64 kd0, .int .i64 sr0]] X (StaP X (ranE n0 es0 kd0 sr0))) := fun X hX => ranOut_any _ es0 n0 kd0 sr0 X hX
  obtain ⟨W0, hW0⟩ : ∃ W0, W0 = w.alloc (.cells #[.int .i64 n0, .slice a es0.length cap, .int .i64 kd0, .int .i64 sr0] 26) := ⟨_, rfl⟩
  have Q0 : BX 26 W0 w.heap.size #[.int .i64 n0, .slice a es0.length cap, .int .i64 kd0, .int .i64 sr0] := by rw [hW0]; exact BX.new _ _ _
  have BH : Hid (Below w.heap.size w W0) := by show Below _ _ _; rw [hW0]; exact below_alloc _ _
  have s1 : w.heap.size + 1 ≤ W0.heap.size := by rw [hW0]; simp
  have HK : Hid (∀ X, Below W0.heap.size W0 X → BX 26 X w.heap.size #[.int .i64 n0, .slice a es0.length cap, .int .i64 kd0, .int .i64 sr0] ∧ Below w.heap.size w X ∧ EdR X (.slice a es0.length cap) es0) := fun X hX => ⟨Q0.below hX (by omega), BH.out.trans (hX.mono (by omega)), HR.out.below (BH.out.trans (hX.mono (by omega))) (Nat.le_refl _)⟩
  have A0 : Hid (Below W0.heap.size W0 W0) := Below.refl _ _
  obtain ⟨q0, q1, q2, q3⟩ := Q0.all4
  clear hR0 hB0 Q0
  generalize ranE n0 es0 kd0 sr0 = R at *
  have te : (R.1 == R.1) = true := by simp
  go_enter Try.func4, Try.ntmps4
  go_upto_region 1 with fail
  rw [← hW0]
  clear hW0
  go_wp2_with fail
  refine (HJ.out _ (HK.out _ A0.out).2.2).mono ?_
  rintro e w1 ⟨v', rfl, hv', hb1⟩
  have A1 : Hid (Below W0.heap.size W0 w1) := hb1
  have E1 : Hid (EdR w1 v' es0) := hv'
  obtain ⟨a1, c1, rfl⟩ := hv'.shape
  clear hv' hb1 q0 q1 q2 q3
  go_wp2_with fail
  refine (HC.out _ _ E1.out).mono ?_
  rintro e w2 ⟨v1, v2, rfl, hv1, hv2, hb2⟩
  have A2 : Below W0.heap.size W0 w2 := A1.out.trans (hb2.mono A1.out.size)
  have V1 : MlR w2 v1 R.2.vals := RowK.own encM_len hv1
  have M1 : LiR w2 v2 R.2.mail := hv2.reads
  obtain ⟨a3, c3, rfl⟩ := V1.shape
  obtain ⟨a4, c4, rfl⟩ := hv2.shape
  have hs2 := A2.size
  have W3 : Hid (Below W0.heap.size W0 (w2.alloc (.cells #[.int .i64 R.2.step, .int .i64 R.2.phase, .bool R.2.fresh, .bool R.2.done, .slice a3 R.2.vals.length c3, .slice a4 R.2.mail.length c4] 30)) ∧ BX 30 (w2.alloc (.cells #[.int .i64 R.2.step, .int .i64 R.2.phase, .bool R.2.fresh, .bool R.2.done, .slice a3 R.2.vals.length c3, .slice a4 R.2.mail.length c4] 30)) w2.heap.size #[.int .i64 R.2.step, .int .i64 R.2.phase, .bool R.2.fresh, .bool R.2.done, .slice a3 R.2.vals.length c3, .slice a4 R.2.mail.length c4] ∧ MlR (w2.alloc (.cells #[.int .i64 R.2.step, .int .i64 R.2.phase, .bool R.2.fresh, .bool R.2.done, .slice a3 R.2.vals.length c3, .slice a4 R.2.mail.length c4] 30)) (.slice a3 R.2.vals.length c3) R.2.vals ∧ LiR (w2.alloc (.cells #[.int .i64 R.2.step, .int .i64 R.2.phase, .bool R.2.fresh, .bool R.2.done, .slice a3 R.2.vals.length c3, .slice a4 R.2.mail.length c4] 30)) (.slice a4 R.2.mail.length c4) R.2.mail) := ⟨A2.alloc hs2 _, BX.new _ _ _, V1.below (below_alloc _ _) (Nat.le_refl _), M1.below (below_alloc _ _) (Nat.le_refl _)⟩
  clear hv1 hv2 hb2 A2 V1 M1
  go_upto_region 2 with fail
  generalize w2.alloc (.cells #[.int .i64 R.2.step, .int .i64 R.2.phase, .bool R.2.fresh, .bool R.2.done, .slice a3 R.2.vals.length c3, .slice a4 R.2.mail.length c4] 30) = w3 at *
  generalize w2.heap.size = b3 at *
  obtain ⟨A3, X3, V3, M3⟩ := W3.out
  obtain ⟨Q3, _, e3⟩ := HK.out _ A3
  obtain ⟨q0, q1, q2, q3⟩ := Q3.all4
  have E3 : Hid (EdR w3 (.slice a es0.length cap) es0) := e3
  clear Q3 e3 A3 X3 V3 M3
  go_wp2_with fail
  refine (HF.out _ E3.out).mono ?_
  rintro e w4 ⟨v1, v2, rfl, hv1, hv2, hb4⟩
  obtain ⟨A3, X3, V3, M3⟩ := W3.out
  have A4 : Below W0.heap.size W0 w4 := A3.trans (hb4.mono A3.size)
  have V4 : MlR w4 v1 R.2.vals := RowK.own encM_len hv1
  have M4 : LiR w4 v2 R.2.mail := hv2.reads
  obtain ⟨a5, c5, rfl⟩ := V4.shape
  obtain ⟨a6, c6, rfl⟩ := hv2.shape
  have X4 := X3.below hb4 X3.lt
  have hs4 := A4.size
  have hb3 := X4.lt
  have ba : ∀ o, Below w4.heap.size w4 (w4.alloc o) := fun o => below_alloc _ _
  have W5 : Hid (Below W0.heap.size W0 (w4.alloc (.cells #[.int .i64 R.2.step, .int .i64 R.2.phase, .bool R.2.fresh, .bool R.2.done, .slice a5 R.2.vals.length c5, .slice a6 R.2.mail.length c6] 30)) ∧ BX 30 (w4.alloc (.cells #[.int .i64 R.2.step, .int .i64 R.2.phase, .bool R.2.fresh, .bool R.2.done, .slice a5 R.2.vals.length c5, .slice a6 R.2.mail.length c6] 30)) b3 #[.int .i64 R.2.step, .int .i64 R.2.phase, .bool R.2.fresh, .bool R.2.done, .slice a3 R.2.vals.length c3, .slice a4 R.2.mail.length c4] ∧ BX 30 (w4.alloc (.cells #[.int .i64 R.2.step, .int .i64 R.2.phase, .bool R.2.fresh, .bool R.2.done, .slice a5 R.2.vals.length c5, .slice a6 R.2.mail.length c6] 30)) w4.heap.size #[.int .i64 R.2.step, .int .i64 R.2.phase, .bool R.2.fresh, .bool R.2.done, .slice a5 R.2.vals.length c5, .slice a6 R.2.mail.length c6] ∧ (MlR (w4.alloc (.cells #[.int .i64 R.2.step, .int .i64 R.2.phase, .bool R.2.fresh, .bool R.2.done, .slice a5 R.2.vals.length c5, .slice a6 R.2.mail.length c6] 30)) (.slice a3 R.2.vals.length c3) R.2.vals ∧ LiR (w4.alloc (.cells #[.int .i64 R.2.step, .int .i64 R.2.phase, .bool R.2.fresh, .bool R.2.done, .slice a5 R.2.vals.length c5, .slice a6 R.2.mail.length c6] 30)) (.slice a4 R.2.mail.length c4) R.2.mail) ∧ MlR (w4.alloc (.cells #[.int .i64 R.2.step, .int .i64 R.2.phase, .bool R.2.fresh, .bool R.2.done, .slice a5 R.2.vals.length c5, .slice a6 R.2.mail.length c6] 30)) (.slice a5 R.2.vals.length c5) R.2.vals ∧ LiR (w4.alloc (.cells #[.int .i64 R.2.step, .int .i64 R.2.phase, .bool R.2.fresh, .bool R.2.done, .slice a5 R.2.vals.length c5, .slice a6 R.2.mail.length c6] 30)) (.slice a6 R.2.mail.length c6) R.2.mail) := ⟨A4.alloc hs4 _, X4.below (ba _) hb3, BX.new _ _ _, ⟨(V3.below hb4 (Nat.le_refl _)).below (ba _) (Nat.le_refl _), (M3.below hb4 (Nat.le_refl _)).below (ba _) (Nat.le_refl _)⟩, V4.below (ba _) (Nat.le_refl _), M4.below (ba _) (Nat.le_refl _)⟩
  clear hv1 hv2 hb4 A3 X3 V3 M3 A4 V4 M4 X4 ba q0 q1 q2 q3 W3
  go_upto_region 3 with fail
  generalize w4.alloc (.cells #[.int .i64 R.2.step, .int .i64 R.2.phase, .bool R.2.fresh, .bool R.2.done, .slice a5 R.2.vals.length c5, .slice a6 R.2.mail.length c6] 30) = w5 at *
  generalize w4.heap.size = b5 at *
  obtain ⟨A5, X5, Y5, ⟨V5, M5⟩, V6, M6⟩ := W5.out
  have CS : Hid (Calls Try.prog 12 #[.agg #[.int .i64 R.2.step, .int .i64 R.2.phase, .bool R.2.fresh, .bool R.2.done, .slice a3 R.2.vals.length c3, .slice a4 R.2.mail.length c4], .agg #[.int .i64 R.2.step, .int .i64 R.2.phase, .bool R.2.fresh, .bool R.2.done, .slice a5 R.2.vals.length c5, .slice a6 R.2.mail.length c6]] w5 fun e w' => e = .returned (.bool true) ∧ Below w5.heap.size w5 w') := sameState_yes R.2 _ _ _ _ w5 V5 V6 M5 M6
  have B5 : Hid (Below w.heap.size w w5) := (HK.out _ A5).2.1
  have hs5 := B5.out.size
  obtain ⟨⟨x0, x1, x2, x3, x4, x5⟩, _⟩ := X5.all6
  obtain ⟨⟨y0, y1, y2, y3, y4, y5⟩, _⟩ := Y5.all6
  clear A5 X5 Y5 V5 M5 V6 M6 W5 hb3 hs4
  have CS2 : ∀ Q, (∀ e w', (e = .returned (.bool true) ∧ Below w5.heap.size w5 w') → Q e w') → Calls Try.prog 12 #[.agg #[.int .i64 R.2.step, .int .i64 R.2.phase, .bool R.2.fresh, .bool R.2.done, .slice a3 R.2.vals.length c3, .slice a4 R.2.mail.length c4], .agg #[.int .i64 R.2.step, .int .i64 R.2.phase, .bool R.2.fresh, .bool R.2.done, .slice a5 R.2.vals.length c5, .slice a6 R.2.mail.length c6]] w5 Q := fun Q hQ => Calls.mono CS.out hQ
  have HCS : Hid (∀ Q : Ending → World → Prop, (∀ e w', (e = .returned (.bool true) ∧ Below w5.heap.size w5 w') → Q e w') → Calls Try.prog 12 #[.agg #[.int .i64 R.2.step, .int .i64 R.2.phase, .bool R.2.fresh, .bool R.2.done, .slice a3 R.2.vals.length c3, .slice a4 R.2.mail.length c4], .agg #[.int .i64 R.2.step, .int .i64 R.2.phase, .bool R.2.fresh, .bool R.2.done, .slice a5 R.2.vals.length c5, .slice a6 R.2.mail.length c6]] w5 Q) := CS2
  clear CS CS2
  go_wp2_with fail
  refine HCS.out _ ?_
  rintro e w6 ⟨rfl, hb6⟩
  have B6 : Hid (Below w.heap.size w w6) := B5.out.trans (hb6.mono hs5)
  clear x0 x1 x2 x3 x4 x5 y0 y1 y2 y3 y4 y5 hb6
  go_wp2_with fail
  go_ret
  exact ⟨rfl, B6.out⟩

set_option maxHeartbeats 400000 in
set_option maxRecDepth 100000 in
theorem lifted (os : Os) (started : os.Started) (H : Type) (enc : TypeId × Value → H) :
    ReturnsInHanded {} Try.checked os 4 .any (Rows.roundsRunsSpec.pre6 enc Try.prog Try.f4 Rows.roundsRunsRow.domain false) (Rows.roundsRunsSpec.post enc Try.prog Try.f4 false true false false) := by
  refine returnsInHanded_of_change_sized (C := Try.checked) own started (by kernel_rfl) Try.func4
    (ChangeSpec.witness6 (enc := enc) (C := Try.checked) false ⟨#[], #[.agg #[.int .i64 0, .slice none 0 0, .int .i64 0, .int .i64 0]], []⟩ 8 (by kernel_rfl) (by kernel_rfl) (by kernel_rfl) (by kernel_rfl)) ?_
  intro W base args ds gs before hval0 hW _ hsz0 _
  have hval : ∀ (j : Nat) t v, Try.f4.params[j]? = some t → args[j]? = some v → Value.okWide Try.prog W .any base t v := hval0
  have hW' := hW
  obtain ⟨p, q, hA0, hV, rfl, hfz, hnd⟩ := hW
  have hA : DataW.TrodAll enc Try.prog W 0 (fun _ => true) true Try.f4.params.toList args.toList ds p := hA0
  have hsz : (DataW.weightsEach Try.prog (Try.f4.params.toList ++ Rows.roundsRunsSpec.plain.varTypes Try.prog) (ds ++ gs)).all (fun x => decide (x ≤ reachBytes)) = true := hsz0
  rw [Try.params4] at hA hval hsz
  obtain ⟨v0, vs0, d0, ds0, p0, q0, hargs, rfl, rfl, h0, r0⟩ := trodAll_cons hA
  obtain ⟨rfl, rfl, rfl⟩ := trodAll_nil r0
  obtain rfl : args = #[v0] := by cases args; simp_all
  obtain ⟨rfl, rfl⟩ := trodVars_none hV
  have k0 := h0
  have lt0 : ∀ x ∈ p0, x.block < W.heap.size := by obtain ⟨m, hm⟩ := k0; exact DataW.trod_lt m _ _ _ hm
  have hw0 : ∀ m ∈ d0.weights Try.prog 26, m ≤ reachBytes := fun m hm => by simpa using List.all_eq_true.1 hsz _ (DataW.weights_mem_each (j := 0) (t := 26) rfl rfl m hm)
  obtain ⟨n0, w0, kd0, sr0, es0, rfl, hN0, hR0, hB0, hL0⟩ := open_job (okWide_struct Try.underlying26 (hval 0 26 v0 rfl rfl)) h0 hw0
  clear hA0 hval0
  refine (walk w0 n0 kd0 sr0 es0 W hN0 hR0 hB0 hL0).mono fun e W' ⟨he, bel⟩ => ?_
  subst he
  exact ⟨_, rfl, _, _, _, [], _, [], hW', trodAll_mk1 (shut_bool Try.underlying4 _), (trodAll_cons_mk (Below.trod laidOut (by kernel_rfl) (of_decide_eq_true (by kernel_rfl)) k0 bel lt0) trodAll_mk0), rfl, bel.frame _, fun h => by cases h⟩

theorem over : Rows.roundsRunsRow.holds Try.pinned (OpenSpec.ofChange Rows.roundsRunsSpec) :=
  OpenClaim.holds_of_wide 4 Try.f4 rfl rfl rfl rfl rfl rfl rfl ⟨rfl, rfl, rfl, rfl, rfl⟩ rfl rfl rfl rfl rfl (by kernel_rfl) Try.func4 (by kernel_rfl)
    (of_decide_eq_true (by kernel_rfl)) (by unfold Func.isWrapper; first | (rw [if_pos (by decide +kernel)]; kernel_rfl) | (rw [if_neg (by decide +kernel)]; exact ⟨rfl, rfl⟩))
    (fun os started H enc _ => lifted os started H enc)

/-- The statement. -/
theorem proved : Rows.RoundsRunsSaid := over
#print axioms proved
end Go.Proofs.Ytbmkgnlfccigpaa.roundsRuns
