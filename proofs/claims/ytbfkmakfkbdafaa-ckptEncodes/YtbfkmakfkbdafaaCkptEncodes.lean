/-
  For whatever is saved ckpt.Encode answers what P14.2 says and leaves its argument alone (the law CkptEncodes returns true, and its argument reads as before); no condition.
-/
import Derived.Test.YtbfkmakfkbdafaaSavedOpen
import Derived.Test.YtbfkmakfkbdafaaCkptEncodesPartA
import Derived.Test.YtbfkmakfkbdafaaSameBytes
import Derived.WalkKit
import Derived.ProofKit
import Derived.OpenShut
import Derived.ShutString
import Derived.SizedLaws
import Derived.ChangeOld
import Derived.Below
namespace Go.Proofs.Ytbfkmakfkbdafaa.ckptEncodes
set_option maxRecDepth 100000
open Go.ChangeShapes Go.WideShapes Go.ChangeAt Go.RowKit

theorem own : ownKnob Try.prog.godebug = none := by kernel_rfl
theorem laidOut : laidOutB Try.prog = true := by kernel_rfl

set_option maxHeartbeats 1000000 in
set_option maxRecDepth 100000 in
theorem walk (T0 : SvS) (vv0 vm0 : Value) (w : World) (hN0 : i64B T0.step ∧ i64B T0.phase) (hV0 : MlR w vv0 T0.vals) (hM0 : MlR w vm0 T0.mail) (hB0 : SavB T0) :
    Calls Try.prog 3 #[.agg #[.int .i64 T0.step, .int .i64 T0.phase, .bool T0.fresh, vv0, vm0]] w fun e w' => e = .returned (.bool true) ∧ Below w.heap.size w w' := by
  have _u := hN0
  clear _u
  have _u := hV0
  clear _u
  have _u := hM0
  clear _u
  have _u := hB0
  clear _u
  have HV : Hid (MlR w vv0 T0.vals) := hV0
  have HM : Hid (MlR w vm0 T0.mail) := hM0
  have HSB : Hid (SavB T0) := hB0
  obtain ⟨va, vc, rfl⟩ := hV0.shape
  obtain ⟨ma, mc, rfl⟩ := hM0.shape
  obtain ⟨W0, hW0⟩ : ∃ W0, W0 = w.alloc (.cells #[.int .i64 T0.step, .int .i64 T0.phase, .bool T0.fresh, .slice va T0.vals.length vc, .slice ma T0.mail.length mc] 25) := ⟨_, rfl⟩
  have Q0 : BX 25 W0 w.heap.size #[.int .i64 T0.step, .int .i64 T0.phase, .bool T0.fresh, .slice va T0.vals.length vc, .slice ma T0.mail.length mc] := by rw [hW0]; exact BX.new _ _ _
  have s0 : W0.heap.size = w.heap.size + 1 := by rw [hW0]; simp
  have s1 : w.heap.size < W0.heap.size := by omega
  have B0 : Hid (Below w.heap.size w W0) := by show Below _ _ _; rw [hW0]; exact below_alloc _ _
  have HK : Hid (∀ X, Below W0.heap.size W0 X → BX 25 X w.heap.size #[.int .i64 T0.step, .int .i64 T0.phase, .bool T0.fresh, .slice va T0.vals.length vc, .slice ma T0.mail.length mc] ∧ Below w.heap.size w X ∧ MlR X (.slice va T0.vals.length vc) T0.vals ∧ MlR X (.slice ma T0.mail.length mc) T0.mail) := fun X hX => by
    have hb := B0.out.trans (hX.mono (show w.heap.size ≤ W0.heap.size by omega))
    exact ⟨Q0.below hX (by omega), hb, HV.out.below hb (Nat.le_refl _), HM.out.below hb (Nat.le_refl _)⟩
  have A0 : Hid (Below W0.heap.size W0 W0) := Below.refl _ _
  obtain ⟨c0, c1, c2, c3, c4⟩ := Q0.all5
  clear Q0 hV0 hM0 hB0 s0
  go_enter Try.func3, Try.ntmps3
  go_upto_region 1 with fail
  rw [← hW0]
  clear hW0
  go_wp2_with fail
  refine (saveds_any T0 _ _ _ (HK.out _ A0.out).2.2.1 (HK.out _ A0.out).2.2.2 HSB.out).mono ?_
  rintro e w1 ⟨u1, u2, rfl, hu1, hu2, hb1⟩
  have V1 : MlR w1 u1 T0.vals := RowK.own encM_len hu1
  have M1 : MlR w1 u2 T0.mail := RowK.own encM_len hu2
  obtain ⟨vb, vd, rfl⟩ := V1.shape
  obtain ⟨mb, md, rfl⟩ := M1.shape
  have hs1 := hb1.size
  have W1 : Hid (Below W0.heap.size W0 (w1.alloc (.cells #[.int .i64 T0.step, .int .i64 T0.phase, .bool T0.fresh, .slice vb T0.vals.length vd, .slice mb T0.mail.length md] 25)) ∧ BX 25 (w1.alloc (.cells #[.int .i64 T0.step, .int .i64 T0.phase, .bool T0.fresh, .slice vb T0.vals.length vd, .slice mb T0.mail.length md] 25)) w1.heap.size #[.int .i64 T0.step, .int .i64 T0.phase, .bool T0.fresh, .slice vb T0.vals.length vd, .slice mb T0.mail.length md] ∧ MlR (w1.alloc (.cells #[.int .i64 T0.step, .int .i64 T0.phase, .bool T0.fresh, .slice vb T0.vals.length vd, .slice mb T0.mail.length md] 25)) (.slice vb T0.vals.length vd) T0.vals ∧ MlR (w1.alloc (.cells #[.int .i64 T0.step, .int .i64 T0.phase, .bool T0.fresh, .slice vb T0.vals.length vd, .slice mb T0.mail.length md] 25)) (.slice mb T0.mail.length md) T0.mail ∧ W0.heap.size ≤ w1.heap.size) := ⟨hb1.alloc hs1 _, BX.new _ _ _, V1.below (below_alloc _ _) (Nat.le_refl _), M1.below (below_alloc _ _) (Nat.le_refl _), hs1⟩
  clear hu1 hu2 hb1 V1 M1 c0 c1 c2 c3 c4 hs1
  go_upto_region 2 with fail
  generalize w1.alloc (.cells #[.int .i64 T0.step, .int .i64 T0.phase, .bool T0.fresh, .slice vb T0.vals.length vd, .slice mb T0.mail.length md] 25) = w3 at *
  generalize w1.heap.size = b3 at *
  obtain ⟨A3', X3', V3', M3', hb3⟩ := W1.out
  have A3 : Hid (Below W0.heap.size W0 w3) := A3'
  have X3 : Hid (BX 25 w3 b3 #[.int .i64 T0.step, .int .i64 T0.phase, .bool T0.fresh, .slice vb T0.vals.length vd, .slice mb T0.mail.length md]) := X3'
  have V3 : Hid (MlR w3 (.slice vb T0.vals.length vd) T0.vals) := V3'
  have M3 : Hid (MlR w3 (.slice mb T0.mail.length md) T0.mail) := M3'
  have hs3 := A3'.size
  have hl3 := X3'.lt
  obtain ⟨c0, c1, c2, c3, c4⟩ := X3'.all5
  clear A3' X3' V3' M3' W1
  go_wp2_with fail
  refine (sEnc_any T0 _ _ _ V3.out M3.out HSB.out.2.1).mono ?_
  rintro e w4 ⟨ve, rfl, he, hb4⟩
  have A4 : Hid (Below w3.heap.size w3 w4) := hb4
  have hs4 := hb4.size
  have O4 : Hid (w4.ownsRow w3.heap.size 5 1 ve (encS T0).1.length ((encS T0).1.map (Value.int .u8))) := he
  obtain ⟨ea, ec, rfl⟩ := own_slice he
  obtain ⟨QA, _, RV, RM⟩ := HK.out _ (A3.out.trans (hb4.mono hs3))
  clear c0 c1 c2 c3 c4 he hb4
  obtain ⟨c0, c1, c2, c3, c4⟩ := QA.all5
  go_upto_region 3 with fail
  go_wp2_with fail
  refine (savedBytes_any T0 _ _ _ RV RM).mono ?_
  rintro e w5 ⟨vf, rfl, hf, hb5⟩
  have A5 : Hid (Below w3.heap.size w3 w5) := A4.out.trans (hb5.mono hs4)
  have hs5 := hb5.size
  obtain ⟨fa, fc, rfl⟩ := own_slice hf
  have R5 : Hid (Reads .u8 w5 (.slice ea (encS T0).1.length ec) (encS T0).1 ∧ Reads .u8 w5 (.slice fa (encS T0).1.length fc) (encS T0).1) := ⟨reads_own (own_below O4.out hb5 (Nat.le_refl _)), reads_own hf⟩
  have K5 : Hid (∀ X, Below w5.heap.size w5 X → BX 25 X w.heap.size #[.int .i64 T0.step, .int .i64 T0.phase, .bool T0.fresh, .slice va T0.vals.length vc, .slice ma T0.mail.length mc] ∧ BX 25 X b3 #[.int .i64 T0.step, .int .i64 T0.phase, .bool T0.fresh, .slice vb T0.vals.length vd, .slice mb T0.mail.length md] ∧ Below w.heap.size w X ∧ (MlR X (.slice va T0.vals.length vc) T0.vals ∧ MlR X (.slice ma T0.mail.length mc) T0.mail) ∧ MlR X (.slice vb T0.vals.length vd) T0.vals ∧ MlR X (.slice mb T0.mail.length md) T0.mail) := fun X hX => by
    have h3 : Below w3.heap.size w3 X := A5.out.trans (hX.mono (by omega))
    obtain ⟨h1, h2, h4⟩ := HK.out _ (A3.out.trans (h3.mono hs3))
    exact ⟨h1, X3.out.below h3 hl3, h2, h4, V3.out.below h3 (Nat.le_refl _), M3.out.below h3 (Nat.le_refl _)⟩
  have te : ((encS T0).2 == (encS T0).2) = true := by simp
  clear c0 c1 c2 c3 c4 QA RV RM hf hb5
  go_upto_region 4 with fail
  go_wp2_with fail
  refine ((sameBytes_any _ _ (encS T0).1 (encS T0).1 _ R5.out.1 R5.out.2 (encS_bd T0) (encS_bd T0)).mono fun e w' h => (⟨by rw [h.1]; simp, h.2⟩ : e = .returned (.bool true) ∧ w' = w5)).mono ?_
  rintro e w6 ⟨rfl, e6⟩
  have e6' : w5 = w6 := e6.symm
  subst e6'
  clear e6
  obtain ⟨KA, KB, hbw, ⟨r1, r2⟩, r3, r4⟩ := K5.out w5 (Below.refl _ _)
  obtain ⟨c0, c1, c2, c3, c4⟩ := KA.all5
  obtain ⟨d0, d1, d2, d3, d4⟩ := KB.all5
  have R6 : Hid (MlR w5 (.slice va T0.vals.length vc) T0.vals ∧ MlR w5 (.slice ma T0.mail.length mc) T0.mail ∧ MlR w5 (.slice vb T0.vals.length vd) T0.vals ∧ MlR w5 (.slice mb T0.mail.length md) T0.mail ∧ Below w.heap.size w w5) := ⟨r1, r2, r3, r4, hbw⟩
  have hw5 := hbw.size
  clear KA KB hbw r1 r2 r3 r4
  go_wp2_with fail
  refine (sameSaved_yes T0 _ _ _ _ _ R6.out.2.2.1 R6.out.1 R6.out.2.2.2.1 R6.out.2.1).mono ?_
  rintro e w7 ⟨rfl, hb7⟩
  have B7 : Hid (Below w.heap.size w w7) := R6.out.2.2.2.2.trans (hb7.mono hw5)
  clear hb7 c0 c1 c2 c3 c4 d0 d1 d2 d3 d4
  go_wp2_with fail
  go_ret
  exact ⟨rfl, B7.out⟩

set_option maxHeartbeats 400000 in
set_option maxRecDepth 100000 in
theorem lifted (os : Os) (started : os.Started) (H : Type) (enc : TypeId × Value → H) :
    ReturnsInHanded {} Try.checked os 3 .any (Rows.ckptEncodesSpec.pre6 enc Try.prog Try.f3 Rows.ckptEncodesRow.domain false) (Rows.ckptEncodesSpec.post enc Try.prog Try.f3 false true false false) := by
  refine returnsInHanded_of_change_sized (C := Try.checked) own started (by kernel_rfl) Try.func3
    (ChangeSpec.witness6 (enc := enc) (C := Try.checked) false ⟨#[], #[.agg #[.int .i64 0, .int .i64 0, .bool false, .slice none 0 0, .slice none 0 0]], []⟩ 8 (by kernel_rfl) (by kernel_rfl) (by kernel_rfl) (by kernel_rfl)) ?_
  intro W base args ds gs before hval0 hW _ hsz0 _
  have hval : ∀ (j : Nat) t v, Try.f3.params[j]? = some t → args[j]? = some v → Value.okWide Try.prog W .any base t v := hval0
  have hW' := hW
  obtain ⟨p, q, hA0, hV, rfl, hfz, hnd⟩ := hW
  have hA : DataW.TrodAll enc Try.prog W 0 (fun _ => true) true Try.f3.params.toList args.toList ds p := hA0
  have hsz : (DataW.weightsEach Try.prog (Try.f3.params.toList ++ Rows.ckptEncodesSpec.plain.varTypes Try.prog) (ds ++ gs)).all (fun x => decide (x ≤ reachBytes)) = true := hsz0
  rw [Try.params3] at hA hval hsz
  obtain ⟨v0, vs0, d0, ds0, p0, q0, hargs, rfl, rfl, h0, r0⟩ := trodAll_cons hA
  obtain ⟨rfl, rfl, rfl⟩ := trodAll_nil r0
  obtain rfl : args = #[v0] := by cases args; simp_all
  obtain ⟨rfl, rfl⟩ := trodVars_none hV
  have k0 := h0
  have lt0 : ∀ x ∈ p0, x.block < W.heap.size := by obtain ⟨m, hm⟩ := k0; exact DataW.trod_lt m _ _ _ hm
  have hw0 : ∀ m ∈ d0.weights Try.prog 25, m ≤ reachBytes := fun m hm => by simpa using List.all_eq_true.1 hsz _ (DataW.weights_mem_each (j := 0) (t := 25) rfl rfl m hm)
  obtain ⟨T0, vv0, vm0, rfl, hN0, hV0, hM0, hB0⟩ := open_saved (okWide_struct Try.underlying25 (hval 0 25 v0 rfl rfl)) h0 hw0
  clear hA0 hval0
  refine (walk T0 vv0 vm0 W hN0 hV0 hM0 hB0).mono fun e W' ⟨he, bel⟩ => ?_
  subst he
  exact ⟨_, rfl, _, _, _, [], _, [], hW', trodAll_mk1 (shut_bool Try.underlying4 _), (trodAll_cons_mk (Below.trod laidOut (by kernel_rfl) (of_decide_eq_true (by kernel_rfl)) k0 bel lt0) trodAll_mk0), rfl, bel.frame _, fun h => by cases h⟩

theorem over : Rows.ckptEncodesRow.holds Try.pinned (OpenSpec.ofChange Rows.ckptEncodesSpec) :=
  OpenClaim.holds_of_wide 3 Try.f3 rfl rfl rfl rfl rfl rfl rfl ⟨rfl, rfl, rfl, rfl, rfl⟩ rfl rfl rfl rfl rfl (by kernel_rfl) Try.func3 (by kernel_rfl)
    (of_decide_eq_true (by kernel_rfl)) (by unfold Func.isWrapper; first | (rw [if_pos (by decide +kernel)]; kernel_rfl) | (rw [if_neg (by decide +kernel)]; exact ⟨rfl, rfl⟩))
    (fun os started H enc _ => lifted os started H enc)

/-- The statement. -/
theorem proved : Rows.CkptEncodesSaid := over
#print axioms proved
end Go.Proofs.Ytbfkmakfkbdafaa.ckptEncodes
