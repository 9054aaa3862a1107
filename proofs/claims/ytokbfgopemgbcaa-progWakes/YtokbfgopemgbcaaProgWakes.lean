/-
  For every kind, vertex, source, value, phase, freshness and mail prog.Wake answers what P11.2 to P11.4 say and leaves its mail alone (the law ProgWakes returns true, and its arguments read as before); no condition.
-/
import Derived.Test.YtokbfgopemgbcaaProgFace
import Derived.Test.YtokbfgopemgbcaaRefWoken
import Derived.Test.YtokbfgopemgbcaaTwoOpen
import Derived.Test.YtokbfgopemgbcaaIntsOpen
import Derived.Test.YtokbfgopemgbcaaIntsCopy
import Derived.Test.YtokbfgopemgbcaaSameNums
import Derived.WalkKit
import Derived.ProofKit
import Derived.OpenShut
import Derived.ShutString
import Derived.SizedLaws
import Derived.ChangeOld
import Derived.Below
namespace Go.Proofs.Ytokbfgopemgbcaa.progWakes
set_option maxRecDepth 100000
open Go.ChangeShapes Go.WideShapes Go.ChangeAt Go.RowKit

theorem own : ownKnob Try.prog.godebug = none := by kernel_rfl
theorem laidOut : laidOutB Try.prog = true := by kernel_rfl

set_option maxHeartbeats 1000000 in
set_option maxRecDepth 100000 in
theorem walk (n0 : Int) (n1 : Int) (n2 : Int) (m3 : Ml) (n4 : Int) (t5 : Bool) (v6 : Value) (ns6 : List Int) (w : World) (hI0 : -9223372036854775808 ≤ n0 ∧ n0 ≤ 9223372036854775807) (hI1 : -9223372036854775808 ≤ n1 ∧ n1 ≤ 9223372036854775807) (hI2 : -9223372036854775808 ≤ n2 ∧ n2 ≤ 9223372036854775807) (hM3 : mlB m3) (hI4 : -9223372036854775808 ≤ n4 ∧ n4 ≤ 9223372036854775807) (hR6 : InR w v6 ns6) (hB6 : ∀ x ∈ ns6, i64B x) (hL6 : ns6.length * 8 ≤ 140737488351232) :
    Calls Try.prog 3 #[.int .i64 n0, .int .i64 n1, .int .i64 n2, .agg #[.int .i64 m3.1, .int .i64 m3.2], .int .i64 n4, .bool t5, v6] w fun e w' => e = .returned (.bool true) ∧ Below w.heap.size w w' := by
  have _u := hI0
  clear _u
  have _u := hI1
  clear _u
  have _u := hI2
  clear _u
  have _u := hM3
  clear _u
  have _u := hI4
  clear _u
  have _u := hR6
  clear _u
  have _u := hB6
  clear _u
  have _u := hL6
  clear _u
  have HR : Hid (InR w v6 ns6) := hR6
  obtain ⟨va, vc, rfl⟩ := hR6.shape
  have CI : Hid (∀ X, InR X (.slice va ns6.length vc) ns6 → Calls Try.prog 9 #[.slice va ns6.length vc] X fun e w' => ∃ v', e = .returned v' ∧ InR w' v' ns6 ∧ Below X.heap.size X w') := fun X hX => ints_row _ ns6 X hX (by omega)
  have C1 : Hid (∀ X v, InR X v ns6 → Calls Try.prog 10 #[.int .i64 n0, .int .i64 n1, .int .i64 n2, .agg #[.int .i64 m3.1, .int .i64 m3.2], .int .i64 n4, .bool t5, v] X fun e w' => e = .returned (.tuple #[.agg #[.int .i64 (wakeF n0 n1 n2 m3 n4 t5 ns6).x.1, .int .i64 (wakeF n0 n1 n2 m3 n4 t5 ns6).x.2], .bool (wakeF n0 n1 n2 m3 n4 t5 ns6).b, .int .i64 (wakeF n0 n1 n2 m3 n4 t5 ns6).f]) ∧ Below X.heap.size X w') := fun X v hX => wake_any n0 n1 n2 m3 n4 t5 ns6 v X hX
  have C2 : Hid (∀ X v, InR X v ns6 → Calls Try.prog 11 #[.int .i64 n0, .int .i64 n1, .int .i64 n2, .agg #[.int .i64 m3.1, .int .i64 m3.2], .int .i64 n4, .bool t5, v] X fun e w' => e = .returned (.tuple #[.agg #[.int .i64 (wakeF n0 n1 n2 m3 n4 t5 ns6).x.1, .int .i64 (wakeF n0 n1 n2 m3 n4 t5 ns6).x.2], .bool (wakeF n0 n1 n2 m3 n4 t5 ns6).b, .int .i64 (wakeF n0 n1 n2 m3 n4 t5 ns6).f]) ∧ Below X.heap.size X w') := fun X v hX => woken_any n0 n1 n2 m3 n4 t5 ns6 v X hX
  generalize (wakeF n0 n1 n2 m3 n4 t5 ns6).x.1 = ra at *
  generalize (wakeF n0 n1 n2 m3 n4 t5 ns6).x.2 = rl at *
  generalize (wakeF n0 n1 n2 m3 n4 t5 ns6).b = rb at *
  generalize (wakeF n0 n1 n2 m3 n4 t5 ns6).f = rf at *
  clear hR6 hB6 hL6
  have da : (ra == ra) = true := by simp
  have dl : (rl == rl) = true := by simp
  have db : (rb == rb) = true := by simp
  have df : (rf == rf) = true := by simp
  obtain ⟨W0, hW0⟩ : ∃ W0, W0 = w.alloc (.cells #[.int .i64 m3.1, .int .i64 m3.2] 23) := ⟨_, rfl⟩
  have Q0 : BX 23 W0 w.heap.size #[.int .i64 m3.1, .int .i64 m3.2] := by rw [hW0]; exact BX.new _ _ _
  have BH : Hid (Below w.heap.size w W0) := by show Below _ _ _; rw [hW0]; exact below_alloc _ _
  have s1 : w.heap.size + 1 ≤ W0.heap.size := by rw [hW0]; simp
  have HK : Hid (∀ X, Below W0.heap.size W0 X → BX 23 X w.heap.size #[.int .i64 m3.1, .int .i64 m3.2] ∧ Below w.heap.size w X ∧ InR X (.slice va ns6.length vc) ns6) := fun X hX => ⟨Q0.below hX (by omega), BH.out.trans (hX.mono (by omega)), HR.out.below (BH.out.trans (hX.mono (by omega))) (Nat.le_refl _)⟩
  have R0 : Hid (InR W0 (.slice va ns6.length vc) ns6) := HR.out.below BH.out (Nat.le_refl _)
  clear Q0
  go_enter Try.func3, Try.ntmps3
  go_upto_region 1 with fail
  rw [← hW0]
  clear hW0
  go_wp2_with fail
  refine (CI.out _ R0.out).mono ?_
  rintro e w1 ⟨v1, rfl, hr1, hb1⟩
  have A1 : Hid (Below W0.heap.size W0 w1) := hb1
  have R1 : Hid (InR w1 v1 ns6) := hr1
  obtain ⟨ya, yc, rfl⟩ := hr1.shape
  clear hr1 hb1
  obtain ⟨Q1, _, _⟩ := HK.out _ A1.out
  obtain ⟨q0, q1, _⟩ := Q1.all2
  clear Q1
  go_wp2_with fail
  refine (C1.out _ _ R1.out).mono ?_
  rintro e w2 ⟨rfl, hb2⟩
  have A2 : Hid (Below W0.heap.size W0 w2) := A1.out.trans (hb2.mono A1.out.size)
  have R2 : Hid (InR w2 (.slice ya ns6.length yc) ns6) := R1.out.below hb2 (Nat.le_refl _)
  clear hb2 q0 q1 A1 R1
  go_upto_region 3 with fail
  have N3 : Hid (BX 23 (w2.alloc (.cells #[.int .i64 ra, .int .i64 rl] 23)) w2.heap.size #[.int .i64 ra, .int .i64 rl]) := BX.new _ _ _
  have A3 : Hid (Below W0.heap.size W0 (w2.alloc (.cells #[.int .i64 ra, .int .i64 rl] 23))) := A2.out.alloc A2.out.size _
  have R3 : Hid (InR (w2.alloc (.cells #[.int .i64 ra, .int .i64 rl] 23)) (.slice ya ns6.length yc) ns6) := R2.out.below (below_alloc _ _) (Nat.le_refl _)
  have s3 : w2.heap.size + 1 ≤ (w2.alloc (.cells #[.int .i64 ra, .int .i64 rl] 23)).heap.size := by simp
  generalize w2.alloc (.cells #[.int .i64 ra, .int .i64 rl] 23) = W3 at *
  obtain ⟨Q3, _, I3⟩ := HK.out _ A3.out
  have J3 : Hid (InR W3 (.slice va ns6.length vc) ns6) := I3
  obtain ⟨q0, q1, _⟩ := Q3.all2
  clear Q3 I3 R2
  go_wp2_with fail
  refine (C2.out _ _ J3.out).mono ?_
  rintro e w4 ⟨rfl, hb4⟩
  have A4 : Hid (Below W0.heap.size W0 w4) := A3.out.trans (hb4.mono A3.out.size)
  have R4 : Hid (InR w4 (.slice ya ns6.length yc) ns6) := R3.out.below hb4 (Nat.le_refl _)
  have N4 : Hid (BX 23 w4 w2.heap.size #[.int .i64 ra, .int .i64 rl]) := N3.out.below hb4 (by omega)
  clear hb4 q0 q1 A3 R3 J3
  go_upto_region 4 with fail
  have N5 : Hid (BX 23 (w4.alloc (.cells #[.int .i64 ra, .int .i64 rl] 23)) w4.heap.size #[.int .i64 ra, .int .i64 rl]) := BX.new _ _ _
  have N6 : Hid (BX 23 (w4.alloc (.cells #[.int .i64 ra, .int .i64 rl] 23)) w2.heap.size #[.int .i64 ra, .int .i64 rl]) := N4.out.below (below_alloc _ _) N4.out.lt
  have A5 : Hid (Below W0.heap.size W0 (w4.alloc (.cells #[.int .i64 ra, .int .i64 rl] 23))) := A4.out.alloc A4.out.size _
  have R5 : Hid (InR (w4.alloc (.cells #[.int .i64 ra, .int .i64 rl] 23)) (.slice ya ns6.length yc) ns6) := R4.out.below (below_alloc _ _) (Nat.le_refl _)
  generalize w4.alloc (.cells #[.int .i64 ra, .int .i64 rl] 23) = W5 at *
  obtain ⟨_, B5, I5⟩ := HK.out _ A5.out
  have J5 : Hid (InR W5 (.slice va ns6.length vc) ns6) := I5
  have K5 : Hid (Below w.heap.size w W5) := B5
  obtain ⟨c0, c1, _⟩ := N6.out.all2
  obtain ⟨e0, e1, _⟩ := N5.out.all2
  clear B5 I5
  go_wp2_with fail
  refine (sameInts_yes _ _ ns6 _ R5.out J5.out).mono ?_
  rintro e w6 ⟨rfl, hb6⟩
  have B6 : Hid (Below w.heap.size w w6) := K5.out.trans (hb6.mono K5.out.size)
  clear hb6 c0 c1 e0 e1
  go_wp2_with fail
  go_ret
  exact ⟨rfl, B6.out⟩

set_option maxHeartbeats 400000 in
set_option maxRecDepth 100000 in
theorem lifted (os : Os) (started : os.Started) (H : Type) (enc : TypeId × Value → H) :
    ReturnsInHanded {} Try.checked os 3 .any (Rows.progWakesSpec.pre6 enc Try.prog Try.f3 Rows.progWakesRow.domain false) (Rows.progWakesSpec.post enc Try.prog Try.f3 false true false false) := by
  refine returnsInHanded_of_change_sized (C := Try.checked) own started (by kernel_rfl) Try.func3
    (ChangeSpec.witness6 (enc := enc) (C := Try.checked) false ⟨#[], #[.int .i64 0, .int .i64 0, .int .i64 0, .agg #[.int .i64 0, .int .i64 0], .int .i64 0, .bool false, .slice none 0 0], []⟩ 8 (by kernel_rfl) (by kernel_rfl) (by kernel_rfl) (by kernel_rfl)) ?_
  intro W base args ds gs before hval0 hW _ hsz0 _
  have hval : ∀ (j : Nat) t v, Try.f3.params[j]? = some t → args[j]? = some v → Value.okWide Try.prog W .any base t v := hval0
  have hW' := hW
  obtain ⟨p, q, hA0, hV, rfl, hfz, hnd⟩ := hW
  have hA : DataW.TrodAll enc Try.prog W 0 (fun _ => true) true Try.f3.params.toList args.toList ds p := hA0
  have hsz : (DataW.weightsEach Try.prog (Try.f3.params.toList ++ Rows.progWakesSpec.plain.varTypes Try.prog) (ds ++ gs)).all (fun x => decide (x ≤ reachBytes)) = true := hsz0
  rw [Try.params3] at hA hval hsz
  obtain ⟨v0, vs0, d0, ds0, p0, q0, hargs, rfl, rfl, h0, r0⟩ := trodAll_cons hA
  obtain ⟨v1, vs1, d1, ds1, p1, q1, rfl, rfl, rfl, h1, r1⟩ := trodAll_cons r0
  obtain ⟨v2, vs2, d2, ds2, p2, q2, rfl, rfl, rfl, h2, r2⟩ := trodAll_cons r1
  obtain ⟨v3, vs3, d3, ds3, p3, q3, rfl, rfl, rfl, h3, r3⟩ := trodAll_cons r2
  obtain ⟨v4, vs4, d4, ds4, p4, q4, rfl, rfl, rfl, h4, r4⟩ := trodAll_cons r3
  obtain ⟨v5, vs5, d5, ds5, p5, q5, rfl, rfl, rfl, h5, r5⟩ := trodAll_cons r4
  obtain ⟨v6, vs6, d6, ds6, p6, q6, rfl, rfl, rfl, h6, r6⟩ := trodAll_cons r5
  obtain ⟨rfl, rfl, rfl⟩ := trodAll_nil r6
  obtain rfl : args = #[v0, v1, v2, v3, v4, v5, v6] := by cases args; simp_all
  obtain ⟨rfl, rfl⟩ := trodVars_none hV
  have k0 := h0
  have lt0 : ∀ x ∈ p0, x.block < W.heap.size := by obtain ⟨m, hm⟩ := k0; exact DataW.trod_lt m _ _ _ hm
  have k1 := h1
  have lt1 : ∀ x ∈ p1, x.block < W.heap.size := by obtain ⟨m, hm⟩ := k1; exact DataW.trod_lt m _ _ _ hm
  have k2 := h2
  have lt2 : ∀ x ∈ p2, x.block < W.heap.size := by obtain ⟨m, hm⟩ := k2; exact DataW.trod_lt m _ _ _ hm
  have k3 := h3
  have lt3 : ∀ x ∈ p3, x.block < W.heap.size := by obtain ⟨m, hm⟩ := k3; exact DataW.trod_lt m _ _ _ hm
  have k4 := h4
  have lt4 : ∀ x ∈ p4, x.block < W.heap.size := by obtain ⟨m, hm⟩ := k4; exact DataW.trod_lt m _ _ _ hm
  have k5 := h5
  have lt5 : ∀ x ∈ p5, x.block < W.heap.size := by obtain ⟨m, hm⟩ := k5; exact DataW.trod_lt m _ _ _ hm
  have k6 := h6
  have lt6 : ∀ x ∈ p6, x.block < W.heap.size := by obtain ⟨m, hm⟩ := k6; exact DataW.trod_lt m _ _ _ hm
  have hw6 : ∀ m ∈ d6.weights Try.prog 24, m ≤ reachBytes := fun m hm => by simpa using List.all_eq_true.1 hsz _ (DataW.weights_mem_each (j := 6) (t := 24) rfl rfl m hm)
  obtain ⟨n0, rfl, _, _, wf0⟩ := open_int Try.underlying3 (hval 0 3 v0 rfl rfl) h0
  have hI0 := bounds_i64 wf0
  obtain ⟨n1, rfl, _, _, wf1⟩ := open_int Try.underlying3 (hval 1 3 v1 rfl rfl) h1
  have hI1 := bounds_i64 wf1
  obtain ⟨n2, rfl, _, _, wf2⟩ := open_int Try.underlying3 (hval 2 3 v2 rfl rfl) h2
  have hI2 := bounds_i64 wf2
  obtain ⟨m3, rfl, hM3⟩ := open_pair Try.underlying23 (by kernel_rfl) rfl rfl rfl rfl (okWide_struct Try.underlying23 (hval 3 23 v3 rfl rfl)) h3
  obtain ⟨n4, rfl, _, _, wf4⟩ := open_int Try.underlying3 (hval 4 3 v4 rfl rfl) h4
  have hI4 := bounds_i64 wf4
  obtain ⟨t5, rfl⟩ := okWide_bool Try.underlying4 (hval 5 4 v5 rfl rfl)
  obtain ⟨ns6, hR6, hB6, hL6⟩ := open_intsR (okWide_slice Try.underlying24 (hval 6 24 v6 rfl rfl)) h6 hw6
  clear hA0 hval0
  refine (walk n0 n1 n2 m3 n4 t5 v6 ns6 W hI0 hI1 hI2 hM3 hI4 hR6 hB6 hL6).mono fun e W' ⟨he, bel⟩ => ?_
  subst he
  exact ⟨_, rfl, _, _, _, [], _, [], hW', trodAll_mk1 (shut_bool Try.underlying4 _), (trodAll_cons_mk (Below.trod laidOut (by kernel_rfl) (of_decide_eq_true (by kernel_rfl)) k0 bel lt0) (trodAll_cons_mk (Below.trod laidOut (by kernel_rfl) (of_decide_eq_true (by kernel_rfl)) k1 bel lt1) (trodAll_cons_mk (Below.trod laidOut (by kernel_rfl) (of_decide_eq_true (by kernel_rfl)) k2 bel lt2) (trodAll_cons_mk (Below.trod laidOut (by kernel_rfl) (of_decide_eq_true (by kernel_rfl)) k3 bel lt3) (trodAll_cons_mk (Below.trod laidOut (by kernel_rfl) (of_decide_eq_true (by kernel_rfl)) k4 bel lt4) (trodAll_cons_mk (Below.trod laidOut (by kernel_rfl) (of_decide_eq_true (by kernel_rfl)) k5 bel lt5) (trodAll_cons_mk (Below.trod laidOut (by kernel_rfl) (of_decide_eq_true (by kernel_rfl)) k6 bel lt6) trodAll_mk0))))))), rfl, bel.frame _, fun h => by cases h⟩

theorem over : Rows.progWakesRow.holds Try.pinned (OpenSpec.ofChange Rows.progWakesSpec) :=
  OpenClaim.holds_of_wide 3 Try.f3 rfl rfl rfl rfl rfl rfl rfl ⟨rfl, rfl, rfl, rfl, rfl⟩ rfl rfl rfl rfl rfl (by kernel_rfl) Try.func3 (by kernel_rfl)
    (of_decide_eq_true (by kernel_rfl)) (by unfold Func.isWrapper; first | (rw [if_pos (by decide +kernel)]; kernel_rfl) | (rw [if_neg (by decide +kernel)]; exact ⟨rfl, rfl⟩))
    (fun os started H enc _ => lifted os started H enc)

/-- The statement. -/
theorem proved : Rows.ProgWakesSaid := over
#print axioms proved
end Go.Proofs.Ytokbfgopemgbcaa.progWakes
