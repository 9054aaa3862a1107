/-
  For every board board.Ready answers what P15.5 says and leaves its argument alone (the law BoardReadies returns true, and its argument reads as before); no condition.
-/
import Derived.Test.YtpikfiegmnmbmaaBoardReady
import Derived.Test.YtpikfiegmnmbmaaRefBoardReady
import Derived.Test.YtpikfiegmnmbmaaBoardCopy
import Derived.Test.YtpikfiegmnmbmaaSameBoard
import Derived.Test.YtpikfiegmnmbmaaBoardArgs
import Derived.WalkKit
import Derived.ProofKit
import Derived.OpenShut
import Derived.ShutString
import Derived.SizedLaws
import Derived.ChangeOld
import Derived.Below
namespace Go.Proofs.Ytpikfiegmnmbmaa.boardReadies
set_option maxRecDepth 100000
open Go.ChangeShapes Go.WideShapes Go.ChangeAt Go.RowKit

theorem own : ownKnob Try.prog.godebug = none := by kernel_rfl
theorem laidOut : laidOutB Try.prog = true := by kernel_rfl

set_option maxHeartbeats 4000000 in
set_option maxRecDepth 100000 in
theorem walk (b0 : BdL) (vr0 : Value) (w : World) (hR0 : RpsR w vr0 b0.reps) (hB0 : BdB b0) :
    Calls Try.prog 5 #[.agg #[.int .i64 b0.workers, .int .i64 b0.epoch, .int .i64 b0.step, vr0]] w fun e w' => e = .returned (.bool true) ∧ Below w.heap.size w w' := by
  have _u := hR0
  clear _u
  have _u := hB0
  clear _u
  have HR : Hid (RpsR w vr0 b0.reps) := hR0
  have HBB : Hid (BdB b0) := hB0
  obtain ⟨ra, rc, rfl⟩ := hR0.shape
  clear hR0 hB0
  obtain ⟨W0, hW0⟩ : ∃ W0, W0 = w.alloc (.cells #[.int .i64 b0.workers, .int .i64 b0.epoch, .int .i64 b0.step, .slice ra b0.reps.length rc] 24) := ⟨_, rfl⟩
  have Q0 : BX 24 W0 w.heap.size #[.int .i64 b0.workers, .int .i64 b0.epoch, .int .i64 b0.step, .slice ra b0.reps.length rc] := by rw [hW0]; exact BX.new _ _ _
  have B0 : Below w.heap.size w W0 := by rw [hW0]; exact below_alloc _ _
  have s0 : w.heap.size < W0.heap.size := Q0.lt
  have HK : Hid (∀ X, Below W0.heap.size W0 X → BX 24 X w.heap.size #[.int .i64 b0.workers, .int .i64 b0.epoch, .int .i64 b0.step, .slice ra b0.reps.length rc] ∧ Below w.heap.size w X ∧ RpsR X (.slice ra b0.reps.length rc) b0.reps) := fun X hX => by
    have hb := B0.trans (hX.mono (show w.heap.size ≤ W0.heap.size by omega))
    exact ⟨Q0.below hX s0, hb, HR.out.below hb (Nat.le_refl _)⟩
  have A0 : Hid (Below W0.heap.size W0 W0) := Below.refl _ _
  obtain ⟨c0, c1, c2, c3⟩ := Q0.all4
  clear Q0 B0 HR
  have CB : Hid (Calls Try.prog 12 #[.agg #[.int .i64 b0.workers, .int .i64 b0.epoch, .int .i64 b0.step, .slice ra b0.reps.length rc]] W0 (BdcP W0 b0)) := boards_any b0 _ W0 (HK.out _ A0.out).2.2 HBB.out
  have CY : Hid (∀ X v, RpsR X v b0.reps → Calls Try.prog 15 #[.agg #[.int .i64 b0.workers, .int .i64 b0.epoch, .int .i64 b0.step, v]] X (RdyP X b0)) := fun X v h => bReady_any b0 v X h
  have CZ : Hid (∀ X v, RpsR X v b0.reps → Calls Try.prog 16 #[.agg #[.int .i64 b0.workers, .int .i64 b0.epoch, .int .i64 b0.step, v]] X (RdyP X b0)) := fun X v h => boardReady_any b0 v X h
  have CS : Hid (∀ X u v, RpsR X u b0.reps → RpsR X v b0.reps → Calls Try.prog 11 #[.agg #[.int .i64 b0.workers, .int .i64 b0.epoch, .int .i64 b0.step, u], .agg #[.int .i64 b0.workers, .int .i64 b0.epoch, .int .i64 b0.step, v]] X fun e w' => e = .returned (.bool true) ∧ Below X.heap.size X w') := fun X u v h1 h2 => sameBoard_yes b0 u v X h1 h2
  unfold RdyP at CY CZ
  generalize rdA b0 RpL.waking = x1 at *
  generalize rdA b0 RpL.opn = x2 at *
  generalize rdE b0 = x3 at *
  have t1 : (x1 == x1) = true := by simp
  have t2 : (x2 == x2) = true := by simp
  have t3 : (x3 == x3) = true := by simp
  go_enter Try.func5, Try.ntmps5
  go_upto_region 1 with fail
  rw [← hW0]
  clear hW0
  go_wp2_with fail
  refine CB.out.mono ?_
  rintro e w1 ⟨v1, rfl, ho1, hb1⟩
  obtain ⟨ca, cc, rfl⟩ := ho1.shape
  have N1 : Hid (Below W0.heap.size W0 (w1.alloc (.cells #[.int .i64 b0.workers, .int .i64 b0.epoch, .int .i64 b0.step, .slice ca b0.reps.length cc] 24)) ∧ BX 24 (w1.alloc (.cells #[.int .i64 b0.workers, .int .i64 b0.epoch, .int .i64 b0.step, .slice ca b0.reps.length cc] 24)) w1.heap.size #[.int .i64 b0.workers, .int .i64 b0.epoch, .int .i64 b0.step, .slice ca b0.reps.length cc] ∧ RpsR (w1.alloc (.cells #[.int .i64 b0.workers, .int .i64 b0.epoch, .int .i64 b0.step, .slice ca b0.reps.length cc] 24)) (.slice ca b0.reps.length cc) b0.reps) := ⟨hb1.alloc hb1.size _, BX.new _ _ _, ho1.reads.below (below_alloc _ _) (Nat.le_refl _)⟩
  clear ho1 hb1 c0 c1 c2 c3 CB
  go_upto_region 2 with fail
  generalize w1.alloc (.cells #[.int .i64 b0.workers, .int .i64 b0.epoch, .int .i64 b0.step, .slice ca b0.reps.length cc] 24) = w2 at *
  generalize w1.heap.size = q1 at *
  have hl1 := N1.out.2.1.lt
  have hs1 := N1.out.1.size
  have KC : Hid (∀ X, Below w2.heap.size w2 X → Below W0.heap.size W0 X ∧ BX 24 X q1 #[.int .i64 b0.workers, .int .i64 b0.epoch, .int .i64 b0.step, .slice ca b0.reps.length cc] ∧ RpsR X (.slice ca b0.reps.length cc) b0.reps) := fun X hX => ⟨N1.out.1.trans (hX.mono hs1), N1.out.2.1.below hX hl1, N1.out.2.2.below hX (Nat.le_refl _)⟩
  have A2 : Hid (Below w2.heap.size w2 w2) := Below.refl _ _
  obtain ⟨c0, c1, c2, c3⟩ := (KC.out _ A2.out).2.1.all4
  go_wp2_with fail
  refine (CY.out _ _ (KC.out _ A2.out).2.2).mono ?_
  rintro e w3 ⟨rfl, hb3⟩
  have A3 : Hid (Below w2.heap.size w2 w3) := hb3
  clear hb3 c0 c1 c2 c3
  obtain ⟨c0, c1, c2, c3⟩ := (HK.out _ (KC.out _ A3.out).1).1.all4
  go_wp2_with fail
  refine (CZ.out _ _ (HK.out _ (KC.out _ A3.out).1).2.2).mono ?_
  rintro e w4 ⟨rfl, hb4⟩
  have A4 : Hid (Below w2.heap.size w2 w4) := A3.out.trans (hb4.mono A3.out.size)
  clear hb4 c0 c1 c2 c3
  obtain ⟨c0, c1, c2, c3⟩ := (HK.out _ (KC.out _ A4.out).1).1.all4
  obtain ⟨d0, d1, d2, d3⟩ := (KC.out _ A4.out).2.1.all4
  go_wp2_with fail
  refine (CS.out _ _ _ (KC.out _ A4.out).2.2 (HK.out _ (KC.out _ A4.out).1).2.2).mono ?_
  rintro e w5 ⟨rfl, hb5⟩
  have A5 : Hid (Below w2.heap.size w2 w5) := A4.out.trans (hb5.mono A4.out.size)
  clear hb5 c0 c1 c2 c3 d0 d1 d2 d3
  go_wp2_with fail
  go_ret
  exact ⟨rfl, (HK.out _ (KC.out _ A5.out).1).2.1⟩

set_option maxHeartbeats 400000 in
set_option maxRecDepth 100000 in
theorem lifted (os : Os) (started : os.Started) (H : Type) (enc : TypeId × Value → H) :
    ReturnsInHanded {} Try.checked os 5 .any (Rows.boardReadiesSpec.pre6 enc Try.prog Try.f5 Rows.boardReadiesRow.domain false) (Rows.boardReadiesSpec.post enc Try.prog Try.f5 false true false false) := by
  refine returnsInHanded_of_change_sized (C := Try.checked) own started (by kernel_rfl) Try.func5
    (ChangeSpec.witness6 (enc := enc) (C := Try.checked) false ⟨#[], #[.agg #[.int .i64 0, .int .i64 0, .int .i64 0, .slice none 0 0]], []⟩ 8 (by kernel_rfl) (by kernel_rfl) (by kernel_rfl) (by kernel_rfl)) ?_
  intro W base args ds gs before hval0 hW _ hsz0 _
  have hval : ∀ (j : Nat) t v, Try.f5.params[j]? = some t → args[j]? = some v → Value.okWide Try.prog W .any base t v := hval0
  have hW' := hW
  obtain ⟨p, q, hA0, hV, rfl, hfz, hnd⟩ := hW
  have hA : DataW.TrodAll enc Try.prog W 0 (fun _ => true) true Try.f5.params.toList args.toList ds p := hA0
  have hsz : (DataW.weightsEach Try.prog (Try.f5.params.toList ++ Rows.boardReadiesSpec.plain.varTypes Try.prog) (ds ++ gs)).all (fun x => decide (x ≤ reachBytes)) = true := hsz0
  rw [Try.params5] at hA hval hsz
  obtain ⟨v0, vs0, d0, ds0, p0, q0, hargs, rfl, rfl, h0, r0⟩ := trodAll_cons hA
  obtain ⟨rfl, rfl, rfl⟩ := trodAll_nil r0
  obtain rfl : args = #[v0] := by cases args; simp_all
  obtain ⟨rfl, rfl⟩ := trodVars_none hV
  have k0 := h0
  have lt0 : ∀ x ∈ p0, x.block < W.heap.size := by obtain ⟨m, hm⟩ := k0; exact DataW.trod_lt m _ _ _ hm
  have hw0 : ∀ m ∈ d0.weights Try.prog 24, m ≤ reachBytes := fun m hm => by simpa using List.all_eq_true.1 hsz _ (DataW.weights_mem_each (j := 0) (t := 24) rfl rfl m hm)
  obtain ⟨b0, vr0, rfl, hR0, hB0⟩ := open_board (okWide_struct Try.underlying24 (hval 0 24 v0 rfl rfl)) h0 hw0
  clear hA0 hval0
  refine (walk b0 vr0 W hR0 hB0).mono fun e W' ⟨he, bel⟩ => ?_
  subst he
  exact ⟨_, rfl, _, _, _, [], _, [], hW', trodAll_mk1 (shut_bool Try.underlying4 _), (trodAll_cons_mk (Below.trod laidOut (by kernel_rfl) (of_decide_eq_true (by kernel_rfl)) k0 bel lt0) trodAll_mk0), rfl, bel.frame _, fun h => by cases h⟩

theorem over : Rows.boardReadiesRow.holds Try.pinned (OpenSpec.ofChange Rows.boardReadiesSpec) :=
  OpenClaim.holds_of_wide 5 Try.f5 rfl rfl rfl rfl rfl rfl rfl ⟨rfl, rfl, rfl, rfl, rfl⟩ rfl rfl rfl rfl rfl (by kernel_rfl) Try.func5 (by kernel_rfl)
    (of_decide_eq_true (by kernel_rfl)) (by unfold Func.isWrapper; first | (rw [if_pos (by decide +kernel)]; kernel_rfl) | (rw [if_neg (by decide +kernel)]; exact ⟨rfl, rfl⟩))
    (fun os started H enc _ => lifted os started H enc)

/-- The statement. -/
theorem proved : Rows.BoardReadiesSaid := over
#print axioms proved
end Go.Proofs.Ytpikfiegmnmbmaa.boardReadies
