/-
  For every board and every report board.Hear answers what P15.4 says and leaves its arguments alone (the law BoardHears returns true, and its arguments read as before); no condition.
-/
import Derived.Test.YtpikfiegmnmbmaaBoardHear
import Derived.Test.YtpikfiegmnmbmaaRefBoardHear
import Derived.Test.YtpikfiegmnmbmaaBoardCopy
import Derived.Test.YtpikfiegmnmbmaaSameBoard
import Derived.Test.YtpikfiegmnmbmaaBoardArgs
import Derived.WalkKit
import Derived.ProofKit
import Derived.OpenShut
import Derived.ShutString
import Derived.SizedLaws
import Derived.ChangeOld
import Derived.Below
namespace Go.Proofs.Ytpikfiegmnmbmaa.boardHears
set_option maxRecDepth 100000
open Go.ChangeShapes Go.WideShapes Go.ChangeAt Go.RowKit

theorem own : ownKnob Try.prog.godebug = none := by kernel_rfl
theorem laidOut : laidOutB Try.prog = true := by kernel_rfl

set_option maxHeartbeats 4000000 in
set_option maxRecDepth 100000 in
theorem walk (b0 : BdL) (vr0 : Value) (r1 : RpL) (vs1 vg1 : Value) (w : World) (hR0 : RpsR w vr0 b0.reps) (hB0 : BdB b0) (hS1 : InR w vs1 r1.sent) (hG1 : InR w vg1 r1.got) (hB1 : RpB r1) :
    Calls Try.prog 4 #[.agg #[.int .i64 b0.workers, .int .i64 b0.epoch, .int .i64 b0.step, vr0], .agg #[.int .i64 r1.worker, .int .i64 r1.epoch, .int .i64 r1.step, vs1, vg1, .int .i64 r1.waking, .int .i64 r1.opn]] w fun e w' => e = .returned (.bool true) ∧ Below w.heap.size w w' := by
  have _u := hR0
  clear _u
  have _u := hB0
  clear _u
  have _u := hS1
  clear _u
  have _u := hG1
  clear _u
  have _u := hB1
  clear _u
  have HR : Hid (RpsR w vr0 b0.reps) := hR0
  have HBB : Hid (BdB b0) := hB0
  obtain ⟨ra, rc, rfl⟩ := hR0.shape
  clear hR0 hB0
  have HS : Hid (InR w vs1 r1.sent) := hS1
  have HG : Hid (InR w vg1 r1.got) := hG1
  have HCC : Hid (RpB r1) := hB1
  obtain ⟨sa, sc, rfl⟩ := hS1.shape
  obtain ⟨ga, gc, rfl⟩ := hG1.shape
  clear hS1 hG1 hB1
  obtain ⟨W0, hW0⟩ : ∃ W0, W0 = (w.alloc (.cells #[.int .i64 b0.workers, .int .i64 b0.epoch, .int .i64 b0.step, .slice ra b0.reps.length rc] 24)).alloc (.cells #[.int .i64 r1.worker, .int .i64 r1.epoch, .int .i64 r1.step, .slice sa r1.sent.length sc, .slice ga r1.got.length gc, .int .i64 r1.waking, .int .i64 r1.opn] 32) := ⟨_, rfl⟩
  obtain ⟨Q0, M0, B0, s1, s2⟩ := boxes2 w #[.int .i64 b0.workers, .int .i64 b0.epoch, .int .i64 b0.step, .slice ra b0.reps.length rc] #[.int .i64 r1.worker, .int .i64 r1.epoch, .int .i64 r1.step, .slice sa r1.sent.length sc, .slice ga r1.got.length gc, .int .i64 r1.waking, .int .i64 r1.opn] 24 32 W0 hW0
  have HK : Hid (∀ X, Below W0.heap.size W0 X → BX 24 X w.heap.size #[.int .i64 b0.workers, .int .i64 b0.epoch, .int .i64 b0.step, .slice ra b0.reps.length rc] ∧ BX 32 X (w.heap.size + 1) #[.int .i64 r1.worker, .int .i64 r1.epoch, .int .i64 r1.step, .slice sa r1.sent.length sc, .slice ga r1.got.length gc, .int .i64 r1.waking, .int .i64 r1.opn] ∧ Below w.heap.size w X ∧ RpsR X (.slice ra b0.reps.length rc) b0.reps ∧ InR X (.slice sa r1.sent.length sc) r1.sent ∧ InR X (.slice ga r1.got.length gc) r1.got) := fun X hX => by
    have hb := B0.trans (hX.mono (show w.heap.size ≤ W0.heap.size by omega))
    exact ⟨Q0.below hX (by omega), M0.below hX (by omega), hb, HR.out.below hb (Nat.le_refl _), HS.out.below hb (Nat.le_refl _), HG.out.below hb (Nat.le_refl _)⟩
  have A0 : Hid (Below W0.heap.size W0 W0) := Below.refl _ _
  obtain ⟨c0, c1, c2, c3⟩ := Q0.all4
  obtain ⟨q0, q1, q2, q3, q4, q5, q6⟩ := M0.all7
  clear Q0 M0 B0 HR HS HG
  have CB : Hid (Calls Try.prog 12 #[.agg #[.int .i64 b0.workers, .int .i64 b0.epoch, .int .i64 b0.step, .slice ra b0.reps.length rc]] W0 (BdcP W0 b0)) := boards_any b0 _ W0 (HK.out _ A0.out).2.2.2.1 HBB.out
  have CY : Hid (∀ X v, RpsR X v b0.reps → InR X (.slice sa r1.sent.length sc) r1.sent → InR X (.slice ga r1.got.length gc) r1.got → Calls Try.prog 13 #[.agg #[.int .i64 b0.workers, .int .i64 b0.epoch, .int .i64 b0.step, v], .agg #[.int .i64 r1.worker, .int .i64 r1.epoch, .int .i64 r1.step, .slice sa r1.sent.length sc, .slice ga r1.got.length gc, .int .i64 r1.waking, .int .i64 r1.opn]] X (BhrP X (heB b0 r1) (heE b0 r1))) := fun X v h h1 h2 => bHear_any b0 r1 v _ _ X h h1 h2 HBB.out HCC.out
  have CZ : Hid (∀ X v, RpsR X v b0.reps → InR X (.slice sa r1.sent.length sc) r1.sent → InR X (.slice ga r1.got.length gc) r1.got → Calls Try.prog 14 #[.agg #[.int .i64 b0.workers, .int .i64 b0.epoch, .int .i64 b0.step, v], .agg #[.int .i64 r1.worker, .int .i64 r1.epoch, .int .i64 r1.step, .slice sa r1.sent.length sc, .slice ga r1.got.length gc, .int .i64 r1.waking, .int .i64 r1.opn]] X (BhrP X (heB b0 r1) (heE b0 r1))) := fun X v h h1 h2 => boardHeard_any b0 r1 v _ _ X h h1 h2 HBB.out HCC.out
  have CS : Hid (∀ X u v, RpsR X u b0.reps → RpsR X v b0.reps → Calls Try.prog 11 #[.agg #[.int .i64 b0.workers, .int .i64 b0.epoch, .int .i64 b0.step, u], .agg #[.int .i64 b0.workers, .int .i64 b0.epoch, .int .i64 b0.step, v]] X fun e w' => e = .returned (.bool true) ∧ Below X.heap.size X w') := fun X u v h1 h2 => sameBoard_yes b0 u v X h1 h2
  have CT : Hid (∀ X u v, RpsR X u (heB b0 r1).reps → RpsR X v (heB b0 r1).reps → Calls Try.prog 11 #[.agg #[.int .i64 (heB b0 r1).workers, .int .i64 (heB b0 r1).epoch, .int .i64 (heB b0 r1).step, u], .agg #[.int .i64 (heB b0 r1).workers, .int .i64 (heB b0 r1).epoch, .int .i64 (heB b0 r1).step, v]] X fun e w' => e = .returned (.bool true) ∧ Below X.heap.size X w') := fun X u v h1 h2 => sameBoard_yes (heB b0 r1) u v X h1 h2
  generalize heB b0 r1 = B at *
  generalize heE b0 r1 = f at *
  have te : (f == f) = true := by simp
  go_enter Try.func4, Try.ntmps4
  go_upto_region 1 with fail
  rw [← hW0]
  clear hW0
  go_wp2_with fail
  refine CB.out.mono ?_
  rintro e w1 ⟨v1, rfl, ho1, hb1⟩
  obtain ⟨ca, cc, rfl⟩ := ho1.shape
  have N1 : Hid (Below W0.heap.size W0 (w1.alloc (.cells #[.int .i64 b0.workers, .int .i64 b0.epoch, .int .i64 b0.step, .slice ca b0.reps.length cc] 24)) ∧ BX 24 (w1.alloc (.cells #[.int .i64 b0.workers, .int .i64 b0.epoch, .int .i64 b0.step, .slice ca b0.reps.length cc] 24)) w1.heap.size #[.int .i64 b0.workers, .int .i64 b0.epoch, .int .i64 b0.step, .slice ca b0.reps.length cc] ∧ RpsR (w1.alloc (.cells #[.int .i64 b0.workers, .int .i64 b0.epoch, .int .i64 b0.step, .slice ca b0.reps.length cc] 24)) (.slice ca b0.reps.length cc) b0.reps) := ⟨hb1.alloc hb1.size _, BX.new _ _ _, ho1.reads.below (below_alloc _ _) (Nat.le_refl _)⟩
  clear ho1 hb1 c0 c1 c2 c3 q0 q1 q2 q3 q4 q5 q6 CB
  go_upto_region 2 with fail
  generalize w1.alloc (.cells #[.int .i64 b0.workers, .int .i64 b0.epoch, .int .i64 b0.step, .slice ca b0.reps.length cc] 24) = w2 at *
  generalize w1.heap.size = p1 at *
  have hl1 := N1.out.2.1.lt
  have hs1 := N1.out.1.size
  have KC : Hid (∀ X, Below w2.heap.size w2 X → Below W0.heap.size W0 X ∧ BX 24 X p1 #[.int .i64 b0.workers, .int .i64 b0.epoch, .int .i64 b0.step, .slice ca b0.reps.length cc] ∧ RpsR X (.slice ca b0.reps.length cc) b0.reps) := fun X hX => ⟨N1.out.1.trans (hX.mono hs1), N1.out.2.1.below hX hl1, N1.out.2.2.below hX (Nat.le_refl _)⟩
  have A2 : Hid (Below w2.heap.size w2 w2) := Below.refl _ _
  obtain ⟨c0, c1, c2, c3⟩ := (KC.out _ A2.out).2.1.all4
  obtain ⟨q0, q1, q2, q3, q4, q5, q6⟩ := (HK.out _ (KC.out _ A2.out).1).2.1.all7
  go_wp2_with fail
  refine (CY.out _ _ (KC.out _ A2.out).2.2 (HK.out _ (KC.out _ A2.out).1).2.2.2.2.1 (HK.out _ (KC.out _ A2.out).1).2.2.2.2.2).mono ?_
  rintro e w3 ⟨v3, rfl, ho3, hb3⟩
  obtain ⟨xa, xc, rfl⟩ := ho3.shape
  have N3 : Hid (Below w2.heap.size w2 (w3.alloc (.cells #[.int .i64 B.workers, .int .i64 B.epoch, .int .i64 B.step, .slice xa B.reps.length xc] 24)) ∧ BX 24 (w3.alloc (.cells #[.int .i64 B.workers, .int .i64 B.epoch, .int .i64 B.step, .slice xa B.reps.length xc] 24)) w3.heap.size #[.int .i64 B.workers, .int .i64 B.epoch, .int .i64 B.step, .slice xa B.reps.length xc] ∧ RpsR (w3.alloc (.cells #[.int .i64 B.workers, .int .i64 B.epoch, .int .i64 B.step, .slice xa B.reps.length xc] 24)) (.slice xa B.reps.length xc) B.reps) := ⟨hb3.alloc hb3.size _, BX.new _ _ _, ho3.reads.below (below_alloc _ _) (Nat.le_refl _)⟩
  clear ho3 hb3 c0 c1 c2 c3 q0 q1 q2 q3 q4 q5 q6 CY
  go_upto_region 3 with fail
  generalize w3.alloc (.cells #[.int .i64 B.workers, .int .i64 B.epoch, .int .i64 B.step, .slice xa B.reps.length xc] 24) = w4 at *
  generalize w3.heap.size = p3 at *
  have hl3 := N3.out.2.1.lt
  have hs3 := N3.out.1.size
  have KD : Hid (∀ X, Below w4.heap.size w4 X → Below w2.heap.size w2 X ∧ BX 24 X p3 #[.int .i64 B.workers, .int .i64 B.epoch, .int .i64 B.step, .slice xa B.reps.length xc] ∧ RpsR X (.slice xa B.reps.length xc) B.reps) := fun X hX => ⟨N3.out.1.trans (hX.mono hs3), N3.out.2.1.below hX hl3, N3.out.2.2.below hX (Nat.le_refl _)⟩
  have KE : Hid (∀ X, Below w4.heap.size w4 X → Below W0.heap.size W0 X) := fun X hX => (KC.out _ (KD.out _ hX).1).1
  have A4 : Hid (Below w4.heap.size w4 w4) := Below.refl _ _
  obtain ⟨c0, c1, c2, c3⟩ := (HK.out _ (KE.out _ A4.out)).1.all4
  obtain ⟨q0, q1, q2, q3, q4, q5, q6⟩ := (HK.out _ (KE.out _ A4.out)).2.1.all7
  go_wp2_with fail
  refine (CZ.out _ _ (HK.out _ (KE.out _ A4.out)).2.2.2.1 (HK.out _ (KE.out _ A4.out)).2.2.2.2.1 (HK.out _ (KE.out _ A4.out)).2.2.2.2.2).mono ?_
  rintro e w5 ⟨v5, rfl, ho5, hb5⟩
  obtain ⟨ya, yc, rfl⟩ := ho5.shape
  have N5 : Hid (Below w4.heap.size w4 (w5.alloc (.cells #[.int .i64 B.workers, .int .i64 B.epoch, .int .i64 B.step, .slice ya B.reps.length yc] 24)) ∧ BX 24 (w5.alloc (.cells #[.int .i64 B.workers, .int .i64 B.epoch, .int .i64 B.step, .slice ya B.reps.length yc] 24)) w5.heap.size #[.int .i64 B.workers, .int .i64 B.epoch, .int .i64 B.step, .slice ya B.reps.length yc] ∧ RpsR (w5.alloc (.cells #[.int .i64 B.workers, .int .i64 B.epoch, .int .i64 B.step, .slice ya B.reps.length yc] 24)) (.slice ya B.reps.length yc) B.reps) := ⟨hb5.alloc hb5.size _, BX.new _ _ _, ho5.reads.below (below_alloc _ _) (Nat.le_refl _)⟩
  clear ho5 hb5 c0 c1 c2 c3 q0 q1 q2 q3 q4 q5 q6 CZ
  go_upto_region 4 with fail
  generalize w5.alloc (.cells #[.int .i64 B.workers, .int .i64 B.epoch, .int .i64 B.step, .slice ya B.reps.length yc] 24) = w6 at *
  generalize w5.heap.size = p5 at *
  have hl5 := N5.out.2.1.lt
  have hs5 := N5.out.1.size
  have KF : Hid (∀ X, Below w6.heap.size w6 X → Below w4.heap.size w4 X ∧ BX 24 X p5 #[.int .i64 B.workers, .int .i64 B.epoch, .int .i64 B.step, .slice ya B.reps.length yc] ∧ RpsR X (.slice ya B.reps.length yc) B.reps) := fun X hX => ⟨N5.out.1.trans (hX.mono hs5), N5.out.2.1.below hX hl5, N5.out.2.2.below hX (Nat.le_refl _)⟩
  have A6 : Hid (Below w6.heap.size w6 w6) := Below.refl _ _
  obtain ⟨c0, c1, c2, c3⟩ := (KF.out _ A6.out).2.1.all4
  obtain ⟨d0, d1, d2, d3⟩ := (KD.out _ (KF.out _ A6.out).1).2.1.all4
  go_wp2_with fail
  refine (CT.out _ _ _ (KD.out _ (KF.out _ A6.out).1).2.2 (KF.out _ A6.out).2.2).mono ?_
  rintro e w7 ⟨rfl, hb7⟩
  have A7 : Hid (Below w6.heap.size w6 w7) := hb7
  clear hb7 c0 c1 c2 c3 d0 d1 d2 d3
  have E7 : Hid (Below w2.heap.size w2 w7) := (KD.out _ (KF.out _ A7.out).1).1
  obtain ⟨c0, c1, c2, c3⟩ := (KC.out _ E7.out).2.1.all4
  obtain ⟨d0, d1, d2, d3⟩ := (HK.out _ (KC.out _ E7.out).1).1.all4
  go_wp2_with fail
  refine (CS.out _ _ _ (KC.out _ E7.out).2.2 (HK.out _ (KC.out _ E7.out).1).2.2.2.1).mono ?_
  rintro e w8 ⟨rfl, hb8⟩
  have E8 : Hid (Below w2.heap.size w2 w8) := E7.out.trans (hb8.mono E7.out.size)
  clear hb8 c0 c1 c2 c3 d0 d1 d2 d3
  go_wp2_with fail
  go_ret
  exact ⟨rfl, (HK.out _ (KC.out _ E8.out).1).2.2.1⟩

set_option maxHeartbeats 400000 in
set_option maxRecDepth 100000 in
theorem lifted (os : Os) (started : os.Started) (H : Type) (enc : TypeId × Value → H) :
    ReturnsInHanded {} Try.checked os 4 .any (Rows.boardHearsSpec.pre6 enc Try.prog Try.f4 Rows.boardHearsRow.domain false) (Rows.boardHearsSpec.post enc Try.prog Try.f4 false true false false) := by
  refine returnsInHanded_of_change_sized (C := Try.checked) own started (by kernel_rfl) Try.func4
    (ChangeSpec.witness6 (enc := enc) (C := Try.checked) false ⟨#[], #[.agg #[.int .i64 0, .int .i64 0, .int .i64 0, .slice none 0 0], .agg #[.int .i64 0, .int .i64 0, .int .i64 0, .slice none 0 0, .slice none 0 0, .int .i64 0, .int .i64 0]], []⟩ 8 (by kernel_rfl) (by kernel_rfl) (by kernel_rfl) (by kernel_rfl)) ?_
  intro W base args ds gs before hval0 hW _ hsz0 _
  have hval : ∀ (j : Nat) t v, Try.f4.params[j]? = some t → args[j]? = some v → Value.okWide Try.prog W .any base t v := hval0
  have hW' := hW
  obtain ⟨p, q, hA0, hV, rfl, hfz, hnd⟩ := hW
  have hA : DataW.TrodAll enc Try.prog W 0 (fun _ => true) true Try.f4.params.toList args.toList ds p := hA0
  have hsz : (DataW.weightsEach Try.prog (Try.f4.params.toList ++ Rows.boardHearsSpec.plain.varTypes Try.prog) (ds ++ gs)).all (fun x => decide (x ≤ reachBytes)) = true := hsz0
  rw [Try.params4] at hA hval hsz
  obtain ⟨v0, vs0, d0, ds0, p0, q0, hargs, rfl, rfl, h0, r0⟩ := trodAll_cons hA
  obtain ⟨v1, vs1, d1, ds1, p1, q1, rfl, rfl, rfl, h1, r1⟩ := trodAll_cons r0
  obtain ⟨rfl, rfl, rfl⟩ := trodAll_nil r1
  obtain rfl : args = #[v0, v1] := by cases args; simp_all
  obtain ⟨rfl, rfl⟩ := trodVars_none hV
  have k0 := h0
  have lt0 : ∀ x ∈ p0, x.block < W.heap.size := by obtain ⟨m, hm⟩ := k0; exact DataW.trod_lt m _ _ _ hm
  have hw0 : ∀ m ∈ d0.weights Try.prog 24, m ≤ reachBytes := fun m hm => by simpa using List.all_eq_true.1 hsz _ (DataW.weights_mem_each (j := 0) (t := 24) rfl rfl m hm)
  have k1 := h1
  have lt1 : ∀ x ∈ p1, x.block < W.heap.size := by obtain ⟨m, hm⟩ := k1; exact DataW.trod_lt m _ _ _ hm
  have hw1 : ∀ m ∈ d1.weights Try.prog 32, m ≤ reachBytes := fun m hm => by simpa using List.all_eq_true.1 hsz _ (DataW.weights_mem_each (j := 1) (t := 32) rfl rfl m hm)
  obtain ⟨b0, vr0, rfl, hR0, hB0⟩ := open_board (okWide_struct Try.underlying24 (hval 0 24 v0 rfl rfl)) h0 hw0
  obtain ⟨r1, vs1, vg1, rfl, hS1, hG1, hB1⟩ := open_report (okWide_struct Try.underlying32 (hval 1 32 v1 rfl rfl)) h1 hw1
  clear hA0 hval0
  refine (walk b0 vr0 r1 vs1 vg1 W hR0 hB0 hS1 hG1 hB1).mono fun e W' ⟨he, bel⟩ => ?_
  subst he
  exact ⟨_, rfl, _, _, _, [], _, [], hW', trodAll_mk1 (shut_bool Try.underlying4 _), (trodAll_cons_mk (Below.trod laidOut (by kernel_rfl) (of_decide_eq_true (by kernel_rfl)) k0 bel lt0) (trodAll_cons_mk (Below.trod laidOut (by kernel_rfl) (of_decide_eq_true (by kernel_rfl)) k1 bel lt1) trodAll_mk0)), rfl, bel.frame _, fun h => by cases h⟩

theorem over : Rows.boardHearsRow.holds Try.pinned (OpenSpec.ofChange Rows.boardHearsSpec) :=
  OpenClaim.holds_of_wide 4 Try.f4 rfl rfl rfl rfl rfl rfl rfl ⟨rfl, rfl, rfl, rfl, rfl⟩ rfl rfl rfl rfl rfl (by kernel_rfl) Try.func4 (by kernel_rfl)
    (of_decide_eq_true (by kernel_rfl)) (by unfold Func.isWrapper; first | (rw [if_pos (by decide +kernel)]; kernel_rfl) | (rw [if_neg (by decide +kernel)]; exact ⟨rfl, rfl⟩))
    (fun os started H enc _ => lifted os started H enc)

/-- The statement. -/
theorem proved : Rows.BoardHearsSaid := over
#print axioms proved
end Go.Proofs.Ytpikfiegmnmbmaa.boardHears
