/-
  No round ends ahead of its last report, nor of its last mail; else it ends (the law BoardAll returns true for all raw numbers, and its arguments read as before); no condition.
-/
import Derived.Test.YtpikfiegmnmbmaaReported
import Derived.Test.YtpikfiegmnmbmaaTallyReady
import Derived.Test.YtpikfiegmnmbmaaTallyMem
import Derived.Test.YtpikfiegmnmbmaaBoardReady
import Derived.WalkKit
import Derived.ProofKit
import Derived.OpenShut
import Derived.ShutString
import Derived.SizedLaws
import Derived.ChangeOld
import Derived.Below
namespace Go.Proofs.Ytpikfiegmnmbmaa.boardAll
set_option maxRecDepth 100000
open Go.ChangeShapes Go.WideShapes Go.ChangeAt Go.RowKit

theorem own : ownKnob Try.prog.godebug = none := by kernel_rfl
theorem laidOut : laidOutB Try.prog = true := by kernel_rfl

set_option maxHeartbeats 8000000 in
set_option maxRecDepth 100000 in
theorem walk (n0 : Int) (v1 : Value) (ts1 : List TyL) (v2 : Value) (ns2 : List Int) (n3 : Int) (n4 : Int) (w : World) (hI0 : -9223372036854775808 ≤ n0 ∧ n0 ≤ 9223372036854775807) (hR1 : TlsR w v1 ts1) (hB1 : ∀ t ∈ ts1, TyB t) (hR2 : InR w v2 ns2) (hB2 : ∀ x ∈ ns2, i64B x) (hI3 : -9223372036854775808 ≤ n3 ∧ n3 ≤ 9223372036854775807) (hI4 : -9223372036854775808 ≤ n4 ∧ n4 ≤ 9223372036854775807) :
    Calls Try.prog 6 #[.int .i64 n0, v1, v2, .int .i64 n3, .int .i64 n4] w fun e w' => e = .returned (.bool true) ∧ Below w.heap.size w w' := by
  have _u := hI0
  clear _u
  have _u := hR1
  clear _u
  have _u := hB1
  clear _u
  have _u := hR2
  clear _u
  have _u := hB2
  clear _u
  have _u := hI3
  clear _u
  have _u := hI4
  clear _u
  have hx := pickF_bd n0 5 (by omega)
  obtain ⟨W, hWe⟩ : ∃ W : Nat, (W : Int) = 1 + pickF n0 5 := ⟨(1 + pickF n0 5).toNat, by omega⟩
  have hW : 1 ≤ W ∧ W ≤ 5 := by omega
  have HW : Hid (1 ≤ W ∧ W ≤ 5) := hW
  have CP : Hid (∀ X, Calls Try.prog 17 #[.int .i64 n0, .int .i64 5] X fun e w' => e = .returned (.int .i64 (pickF n0 5)) ∧ w' = X) := fun X => picked_any n0 5 X hI0.1 hI0.2 (by decide) (by decide)
  have hW1 : 1 ≤ W := hW.1
  have hW5 : W ≤ 5 := hW.2
  clear hI0 hx hW
  generalize pickF n0 5 = y0 at *
  have hy : (1 : Int) + y0 = (W : Int) := hWe.symm
  clear hWe
  have HT : Hid (TlsR w v1 ts1) := hR1
  have HTB : Hid (∀ t ∈ ts1, TyB t) := hB1
  obtain ⟨la, lc, rfl, hll⟩ := hR1.shape
  clear hR1 hB1
  have HO2 : Hid (InR w v2 ns2) := hR2
  have HOB2 : Hid (∀ x ∈ ns2, i64B x) := hB2
  obtain ⟨oa2, oc2, rfl⟩ := hR2.shape
  clear hR2 hB2
  have hp3 := pickF_bd n3 (W : Int) (by omega)
  have CP3 : Hid (∀ X, Calls Try.prog 17 #[.int .i64 n3, .int .i64 (W : Int)] X fun e w' => e = .returned (.int .i64 (pickF n3 (W : Int))) ∧ w' = X) := fun X => picked_any n3 W X hI3.1 hI3.2 (by omega) (by omega)
  obtain ⟨S, hS⟩ : ∃ S, S = W * W := ⟨_, rfl⟩
  have hWW : (W : Int) * (W : Int) = (S : Int) := by rw [hS]; exact (Int.natCast_mul W W).symm
  have hS1 : 1 ≤ S := by rw [hS]; exact Nat.mul_pos hW1 hW1
  have hS2 : S ≤ 25 := by rw [hS]; exact Nat.mul_le_mul hW5 hW5
  have hp4 := pickF_bd n4 (S : Int) (by omega)
  have CP4 : Hid (∀ X, Calls Try.prog 17 #[.int .i64 n4, .int .i64 (S : Int)] X fun e w' => e = .returned (.int .i64 (pickF n4 (S : Int))) ∧ w' = X) := fun X => picked_any n4 S X hI4.1 hI4.2 (by omega) (by omega)
  have R2 : Hid (rdE (brdT W ts1 ns2 (pickF n3 (W : Int)) (-1) W) = 12) := ready_out HW.out hp3
  have R3 : Hid (rdE (brdT W ts1 ns2 W (pickF n4 (S : Int)) W) = 12) := ready_off HW.out (by rw [← hS]; exact hp4)
  clear hI3 hI4 hp3 hp4 hS
  generalize pickF n3 (W : Int) = y3 at *
  generalize pickF n4 (S : Int) = y4 at *
  have CR1 : Hid (∀ X, TlsR X (.slice la ts1.length lc) ts1 → InR X (.slice oa2 ns2.length oc2) ns2 → Calls Try.prog 18 #[.int .i64 (W : Int), .slice la ts1.length lc, .slice oa2 ns2.length oc2, .int .i64 (W : Int), .int .i64 (-1)] X (RptP X W (repsT W ts1 ns2 (W : Int) (-1) W))) := fun X h1 h2 => reported_any W HW.out _ ts1 _ ns2 (W : Int) (-1) X h1 HTB.out h2 HOB2.out
  have CR2 : Hid (∀ X, TlsR X (.slice la ts1.length lc) ts1 → InR X (.slice oa2 ns2.length oc2) ns2 → Calls Try.prog 18 #[.int .i64 (W : Int), .slice la ts1.length lc, .slice oa2 ns2.length oc2, .int .i64 y3, .int .i64 (-1)] X (RptP X W (repsT W ts1 ns2 y3 (-1) W))) := fun X h1 h2 => reported_any W HW.out _ ts1 _ ns2 y3 (-1) X h1 HTB.out h2 HOB2.out
  have CR3 : Hid (∀ X, TlsR X (.slice la ts1.length lc) ts1 → InR X (.slice oa2 ns2.length oc2) ns2 → Calls Try.prog 18 #[.int .i64 (W : Int), .slice la ts1.length lc, .slice oa2 ns2.length oc2, .int .i64 (W : Int), .int .i64 y4] X (RptP X W (repsT W ts1 ns2 (W : Int) y4 W))) := fun X h1 h2 => reported_any W HW.out _ ts1 _ ns2 (W : Int) y4 X h1 HTB.out h2 HOB2.out
  have CY1 : Hid (∀ X v, RpsR X v (repsT W ts1 ns2 (W : Int) (-1) W) → Calls Try.prog 15 #[.agg #[.int .i64 (W : Int), .int .i64 2, .int .i64 3, v]] X fun e w' => e = .returned (.tuple #[.int .i64 (rdA (brdT W ts1 ns2 (W : Int) (-1) W) RpL.waking), .int .i64 (rdA (brdT W ts1 ns2 (W : Int) (-1) W) RpL.opn), .int .i64 0]) ∧ Below X.heap.size X w') := fun X v h => by
    have h1 := bReady_any (brdT W ts1 ns2 (W : Int) (-1) W) v X h
    unfold RdyP at h1
    rw [tally_all HW.out] at h1
    exact h1
  have CY2 : Hid (∀ X v, RpsR X v (repsT W ts1 ns2 y3 (-1) W) → Calls Try.prog 15 #[.agg #[.int .i64 (W : Int), .int .i64 2, .int .i64 3, v]] X fun e w' => e = .returned (.tuple #[.int .i64 0, .int .i64 0, .int .i64 12]) ∧ Below X.heap.size X w') := fun X v h => by
    have h1 := bReady_any (brdT W ts1 ns2 y3 (-1) W) v X h
    unfold RdyP at h1
    rw [ready_zero _ R2.out, ready_zero _ R2.out, R2.out] at h1
    exact h1
  have CY3 : Hid (∀ X v, RpsR X v (repsT W ts1 ns2 (W : Int) y4 W) → Calls Try.prog 15 #[.agg #[.int .i64 (W : Int), .int .i64 2, .int .i64 3, v]] X fun e w' => e = .returned (.tuple #[.int .i64 0, .int .i64 0, .int .i64 12]) ∧ Below X.heap.size X w') := fun X v h => by
    have h1 := bReady_any (brdT W ts1 ns2 (W : Int) y4 W) v X h
    unfold RdyP at h1
    rw [ready_zero _ R3.out, ready_zero _ R3.out, R3.out] at h1
    exact h1
  generalize rdA (brdT W ts1 ns2 (W : Int) (-1) W) RpL.waking = z1 at *
  generalize rdA (brdT W ts1 ns2 (W : Int) (-1) W) RpL.opn = z2 at *
  clear R2 R3
  go_enter Try.func6, Try.ntmps6
  go_wp2_with fail
  refine (CP.out _).mono ?_
  rintro e w0 ⟨rfl, e0⟩
  have e0' : w = w0 := e0.symm
  subst e0'
  clear e0
  have A0 : Hid (Below w.heap.size w w) := Below.refl _ _
  go_wp2_with fail
  refine (CR1.out _ (HT.out.below A0.out (Nat.le_refl _)) (HO2.out.below A0.out (Nat.le_refl _))).mono ?_
  rintro e w1a ⟨v, rfl, hr, hb⟩
  obtain ⟨x1a, x1c, hs⟩ := hr.shape
  have hbA : Below w.heap.size w w1a := A0.out.trans (hb.mono A0.out.size)
  have N1 : Hid (Below w.heap.size w (w1a.alloc (.cells #[.int .i64 (W : Int), .int .i64 2, .int .i64 3, v] 24)) ∧ BX 24 (w1a.alloc (.cells #[.int .i64 (W : Int), .int .i64 2, .int .i64 3, v] 24)) w1a.heap.size #[.int .i64 (W : Int), .int .i64 2, .int .i64 3, v] ∧ RpsR (w1a.alloc (.cells #[.int .i64 (W : Int), .int .i64 2, .int .i64 3, v] 24)) v (repsT W ts1 ns2 (W : Int) (-1) W)) := ⟨hbA.alloc hbA.size _, BX.new _ _ _, hr.below (below_alloc _ _) (Nat.le_refl _)⟩
  obtain ⟨m1, hm1⟩ : ∃ m, m = (repsT W ts1 ns2 (W : Int) (-1) W).length := ⟨_, rfl⟩
  rw [← hm1] at hs
  have HM1 : Hid (m1 = (repsT W ts1 ns2 (W : Int) (-1) W).length) := hm1
  subst hs
  clear hr hb hbA hm1
  go_upto_region 3 with fail
  generalize w1a.alloc (.cells #[.int .i64 (W : Int), .int .i64 2, .int .i64 3, .slice x1a m1 x1c] 24) = w1b at *
  generalize w1a.heap.size = q1 at *
  obtain ⟨c0, c1, c2, c3⟩ := N1.out.2.1.all4
  go_wp2_with fail
  refine (CY1.out _ _ N1.out.2.2).mono ?_
  rintro e w1c ⟨rfl, hb⟩
  have A1 : Hid (Below w.heap.size w w1c) := N1.out.1.trans (hb.mono N1.out.1.size)
  clear hb c0 c1 c2 c3
  go_wp2_with fail
  refine (CP3.out _).mono ?_
  rintro e w9 ⟨rfl, e9⟩
  have e9' : w1c = w9 := e9.symm
  subst e9'
  clear e9
  go_wp2_with fail
  refine (CR2.out _ (HT.out.below A1.out (Nat.le_refl _)) (HO2.out.below A1.out (Nat.le_refl _))).mono ?_
  rintro e w2a ⟨v, rfl, hr, hb⟩
  obtain ⟨x2a, x2c, hs⟩ := hr.shape
  have hbA : Below w.heap.size w w2a := A1.out.trans (hb.mono A1.out.size)
  have N2 : Hid (Below w.heap.size w (w2a.alloc (.cells #[.int .i64 (W : Int), .int .i64 2, .int .i64 3, v] 24)) ∧ BX 24 (w2a.alloc (.cells #[.int .i64 (W : Int), .int .i64 2, .int .i64 3, v] 24)) w2a.heap.size #[.int .i64 (W : Int), .int .i64 2, .int .i64 3, v] ∧ RpsR (w2a.alloc (.cells #[.int .i64 (W : Int), .int .i64 2, .int .i64 3, v] 24)) v (repsT W ts1 ns2 y3 (-1) W)) := ⟨hbA.alloc hbA.size _, BX.new _ _ _, hr.below (below_alloc _ _) (Nat.le_refl _)⟩
  obtain ⟨m2, hm2⟩ : ∃ m, m = (repsT W ts1 ns2 y3 (-1) W).length := ⟨_, rfl⟩
  rw [← hm2] at hs
  have HM2 : Hid (m2 = (repsT W ts1 ns2 y3 (-1) W).length) := hm2
  subst hs
  clear hr hb hbA hm2
  go_upto_region 5 with fail
  generalize w2a.alloc (.cells #[.int .i64 (W : Int), .int .i64 2, .int .i64 3, .slice x2a m2 x2c] 24) = w2b at *
  generalize w2a.heap.size = q2 at *
  obtain ⟨c0, c1, c2, c3⟩ := N2.out.2.1.all4
  go_wp2_with fail
  refine (CY2.out _ _ N2.out.2.2).mono ?_
  rintro e w2c ⟨rfl, hb⟩
  have A2 : Hid (Below w.heap.size w w2c) := N2.out.1.trans (hb.mono N2.out.1.size)
  clear hb c0 c1 c2 c3
  go_wp2_with fail
  refine (CP4.out _).mono ?_
  rintro e w9 ⟨rfl, e9⟩
  have e9' : w2c = w9 := e9.symm
  subst e9'
  clear e9
  go_wp2_with fail
  refine (CR3.out _ (HT.out.below A2.out (Nat.le_refl _)) (HO2.out.below A2.out (Nat.le_refl _))).mono ?_
  rintro e w3a ⟨v, rfl, hr, hb⟩
  obtain ⟨x3a, x3c, hs⟩ := hr.shape
  have hbA : Below w.heap.size w w3a := A2.out.trans (hb.mono A2.out.size)
  have N3 : Hid (Below w.heap.size w (w3a.alloc (.cells #[.int .i64 (W : Int), .int .i64 2, .int .i64 3, v] 24)) ∧ BX 24 (w3a.alloc (.cells #[.int .i64 (W : Int), .int .i64 2, .int .i64 3, v] 24)) w3a.heap.size #[.int .i64 (W : Int), .int .i64 2, .int .i64 3, v] ∧ RpsR (w3a.alloc (.cells #[.int .i64 (W : Int), .int .i64 2, .int .i64 3, v] 24)) v (repsT W ts1 ns2 (W : Int) y4 W)) := ⟨hbA.alloc hbA.size _, BX.new _ _ _, hr.below (below_alloc _ _) (Nat.le_refl _)⟩
  obtain ⟨m3, hm3⟩ : ∃ m, m = (repsT W ts1 ns2 (W : Int) y4 W).length := ⟨_, rfl⟩
  rw [← hm3] at hs
  have HM3 : Hid (m3 = (repsT W ts1 ns2 (W : Int) y4 W).length) := hm3
  subst hs
  clear hr hb hbA hm3
  go_upto_region 7 with fail
  generalize w3a.alloc (.cells #[.int .i64 (W : Int), .int .i64 2, .int .i64 3, .slice x3a m3 x3c] 24) = w3b at *
  generalize w3a.heap.size = q3 at *
  obtain ⟨c0, c1, c2, c3⟩ := N3.out.2.1.all4
  go_wp2_with fail
  refine (CY3.out _ _ N3.out.2.2).mono ?_
  rintro e w3c ⟨rfl, hb⟩
  have A3 : Hid (Below w.heap.size w w3c) := N3.out.1.trans (hb.mono N3.out.1.size)
  clear hb c0 c1 c2 c3
  go_wp2_with fail
  go_ret
  exact ⟨rfl, A3.out⟩

set_option maxHeartbeats 400000 in
set_option maxRecDepth 100000 in
theorem lifted (os : Os) (started : os.Started) (H : Type) (enc : TypeId × Value → H) :
    ReturnsInHanded {} Try.checked os 6 .any (Rows.boardAllSpec.pre6 enc Try.prog Try.f6 Rows.boardAllRow.domain false) (Rows.boardAllSpec.post enc Try.prog Try.f6 false true false false) := by
  refine returnsInHanded_of_change_sized (C := Try.checked) own started (by kernel_rfl) Try.func6
    (ChangeSpec.witness6 (enc := enc) (C := Try.checked) false ⟨#[], #[.int .i64 0, .slice none 0 0, .slice none 0 0, .int .i64 0, .int .i64 0], []⟩ 8 (by kernel_rfl) (by kernel_rfl) (by kernel_rfl) (by kernel_rfl)) ?_
  intro W base args ds gs before hval0 hW _ hsz0 _
  have hval : ∀ (j : Nat) t v, Try.f6.params[j]? = some t → args[j]? = some v → Value.okWide Try.prog W .any base t v := hval0
  have hW' := hW
  obtain ⟨p, q, hA0, hV, rfl, hfz, hnd⟩ := hW
  have hA : DataW.TrodAll enc Try.prog W 0 (fun _ => true) true Try.f6.params.toList args.toList ds p := hA0
  have hsz : (DataW.weightsEach Try.prog (Try.f6.params.toList ++ Rows.boardAllSpec.plain.varTypes Try.prog) (ds ++ gs)).all (fun x => decide (x ≤ reachBytes)) = true := hsz0
  rw [Try.params6] at hA hval hsz
  obtain ⟨v0, vs0, d0, ds0, p0, q0, hargs, rfl, rfl, h0, r0⟩ := trodAll_cons hA
  obtain ⟨v1, vs1, d1, ds1, p1, q1, rfl, rfl, rfl, h1, r1⟩ := trodAll_cons r0
  obtain ⟨v2, vs2, d2, ds2, p2, q2, rfl, rfl, rfl, h2, r2⟩ := trodAll_cons r1
  obtain ⟨v3, vs3, d3, ds3, p3, q3, rfl, rfl, rfl, h3, r3⟩ := trodAll_cons r2
  obtain ⟨v4, vs4, d4, ds4, p4, q4, rfl, rfl, rfl, h4, r4⟩ := trodAll_cons r3
  obtain ⟨rfl, rfl, rfl⟩ := trodAll_nil r4
  obtain rfl : args = #[v0, v1, v2, v3, v4] := by cases args; simp_all
  obtain ⟨rfl, rfl⟩ := trodVars_none hV
  have k0 := h0
  have lt0 : ∀ x ∈ p0, x.block < W.heap.size := by obtain ⟨m, hm⟩ := k0; exact DataW.trod_lt m _ _ _ hm
  have k1 := h1
  have lt1 : ∀ x ∈ p1, x.block < W.heap.size := by obtain ⟨m, hm⟩ := k1; exact DataW.trod_lt m _ _ _ hm
  have k2 := h2
  have lt2 : ∀ x ∈ p2, x.block < W.heap.size := by obtain ⟨m, hm⟩ := k2; exact DataW.trod_lt m _ _ _ hm
  have k3 := h3
  have lt3 : ∀ x ∈ p3, x.block < W.heap.size := by obtain ⟨m, hm⟩ := k3; exact DataW.trod_lt m _ _ _ hm
  have k4 := h4
  have lt4 : ∀ x ∈ p4, x.block < W.heap.size := by obtain ⟨m, hm⟩ := k4; exact DataW.trod_lt m _ _ _ hm
  obtain ⟨n0, rfl, _, _, wf0⟩ := open_int Try.underlying3 (hval 0 3 v0 rfl rfl) h0
  have hI0 := bounds_i64 wf0
  obtain ⟨ts1, hR1, hB1⟩ := open_tallies (okWide_slice Try.underlying39 (hval 1 39 v1 rfl rfl)) h1
  obtain ⟨ns2, hR2, hB2⟩ := open_intsO (okWide_slice Try.underlying30 (hval 2 30 v2 rfl rfl)) h2
  obtain ⟨n3, rfl, _, _, wf3⟩ := open_int Try.underlying3 (hval 3 3 v3 rfl rfl) h3
  have hI3 := bounds_i64 wf3
  obtain ⟨n4, rfl, _, _, wf4⟩ := open_int Try.underlying3 (hval 4 3 v4 rfl rfl) h4
  have hI4 := bounds_i64 wf4
  clear hA0 hval0
  refine (walk n0 v1 ts1 v2 ns2 n3 n4 W hI0 hR1 hB1 hR2 hB2 hI3 hI4).mono fun e W' ⟨he, bel⟩ => ?_
  subst he
  exact ⟨_, rfl, _, _, _, [], _, [], hW', trodAll_mk1 (shut_bool Try.underlying4 _), (trodAll_cons_mk (Below.trod laidOut (by kernel_rfl) (of_decide_eq_true (by kernel_rfl)) k0 bel lt0) (trodAll_cons_mk (Below.trod laidOut (by kernel_rfl) (of_decide_eq_true (by kernel_rfl)) k1 bel lt1) (trodAll_cons_mk (Below.trod laidOut (by kernel_rfl) (of_decide_eq_true (by kernel_rfl)) k2 bel lt2) (trodAll_cons_mk (Below.trod laidOut (by kernel_rfl) (of_decide_eq_true (by kernel_rfl)) k3 bel lt3) (trodAll_cons_mk (Below.trod laidOut (by kernel_rfl) (of_decide_eq_true (by kernel_rfl)) k4 bel lt4) trodAll_mk0))))), rfl, bel.frame _, fun h => by cases h⟩

theorem over : Rows.boardAllRow.holds Try.pinned (OpenSpec.ofChange Rows.boardAllSpec) :=
  OpenClaim.holds_of_wide 6 Try.f6 rfl rfl rfl rfl rfl rfl rfl ⟨rfl, rfl, rfl, rfl, rfl⟩ rfl rfl rfl rfl rfl (by kernel_rfl) Try.func6 (by kernel_rfl)
    (of_decide_eq_true (by kernel_rfl)) (by unfold Func.isWrapper; first | (rw [if_pos (by decide +kernel)]; kernel_rfl) | (rw [if_neg (by decide +kernel)]; exact ⟨rfl, rfl⟩))
    (fun os started H enc _ => lifted os started H enc)

/-- The statement. -/
theorem proved : Rows.BoardAllSaid := over
#print axioms proved
end Go.Proofs.Ytpikfiegmnmbmaa.boardAll
