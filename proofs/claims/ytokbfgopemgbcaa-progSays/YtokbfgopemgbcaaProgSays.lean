/-
  For every kind, value, phase and weight prog.Say answers what P11.5 says (the law ProgSays returns true); no condition.
-/
import Derived.Test.YtokbfgopemgbcaaProgSay
import Derived.Test.YtokbfgopemgbcaaRefSaid
import Derived.Test.YtokbfgopemgbcaaTwoOpen
import Derived.WalkKit
import Derived.ProofKit
import Derived.OpenShut
import Derived.ShutString
import Derived.SizedLaws
import Derived.ChangeOld
import Derived.Below
namespace Go.Proofs.Ytokbfgopemgbcaa.progSays
set_option maxRecDepth 100000
open Go.ChangeShapes Go.WideShapes Go.ChangeAt Go.RowKit

theorem own : ownKnob Try.prog.godebug = none := by kernel_rfl
theorem laidOut : laidOutB Try.prog = true := by kernel_rfl

set_option maxHeartbeats 1000000 in
set_option maxRecDepth 100000 in
theorem walk (n0 : Int) (m1 : Ml) (n2 : Int) (n3 : Int) (w : World) (hI0 : -9223372036854775808 ≤ n0 ∧ n0 ≤ 9223372036854775807) (hM1 : mlB m1) (hI2 : -9223372036854775808 ≤ n2 ∧ n2 ≤ 9223372036854775807) (hI3 : -9223372036854775808 ≤ n3 ∧ n3 ≤ 9223372036854775807) :
    Calls Try.prog 4 #[.int .i64 n0, .agg #[.int .i64 m1.1, .int .i64 m1.2], .int .i64 n2, .int .i64 n3] w fun e w' => e = .returned (.bool true) ∧ Below w.heap.size w w' := by
  have _u := hI0
  clear _u
  have _u := hM1
  clear _u
  have _u := hI2
  clear _u
  have _u := hI3
  clear _u
  have C1 : Hid (∀ X, Calls Try.prog 13 #[.int .i64 n0, .agg #[.int .i64 m1.1, .int .i64 m1.2], .int .i64 n2, .int .i64 n3] X fun e w' => e = .returned (.tuple #[.int .i64 (saidF n0 m1 n2 n3).1, .int .i64 (saidF n0 m1 n2 n3).2]) ∧ Below X.heap.size X w') := fun X => say_any n0 m1 n2 n3 X
  have C2 : Hid (∀ X, Calls Try.prog 14 #[.int .i64 n0, .agg #[.int .i64 m1.1, .int .i64 m1.2], .int .i64 n2, .int .i64 n3] X fun e w' => e = .returned (.tuple #[.int .i64 (saidF n0 m1 n2 n3).1, .int .i64 (saidF n0 m1 n2 n3).2]) ∧ Below X.heap.size X w') := fun X => said_any n0 m1 n2 n3 X
  generalize (saidF n0 m1 n2 n3).1 = o1 at *
  generalize (saidF n0 m1 n2 n3).2 = f at *
  obtain ⟨W0, hW0⟩ : ∃ W0, W0 = w.alloc (.cells #[.int .i64 m1.1, .int .i64 m1.2] 23) := ⟨_, rfl⟩
  have Q0 : BX 23 W0 w.heap.size #[.int .i64 m1.1, .int .i64 m1.2] := by rw [hW0]; exact BX.new _ _ _
  have BH : Hid (Below w.heap.size w W0) := by show Below _ _ _; rw [hW0]; exact below_alloc _ _
  have s1 : w.heap.size + 1 ≤ W0.heap.size := by rw [hW0]; simp
  have HK : Hid (∀ X, Below W0.heap.size W0 X → BX 23 X w.heap.size #[.int .i64 m1.1, .int .i64 m1.2] ∧ Below w.heap.size w X) := fun X hX => ⟨Q0.below hX (by omega), BH.out.trans (hX.mono (by omega))⟩
  obtain ⟨q0, q1, _⟩ := Q0.all2
  clear Q0
  have d1 : (o1 == o1) = true := by simp
  have d3 : (f == f) = true := by simp
  go_enter Try.func4, Try.ntmps4
  go_upto_region 1 with fail
  rw [← hW0]
  clear hW0
  go_wp2_with fail
  refine (C1.out _).mono ?_
  rintro e w1 ⟨rfl, hb⟩
  obtain ⟨Q2, b2⟩ := HK.out _ hb
  have B1 : Hid (Below w.heap.size w w1) := b2
  clear hb q0 q1 b2
  obtain ⟨q0, q1, _⟩ := Q2.all2
  clear Q2
  go_wp2_with fail
  refine (C2.out _).mono ?_
  rintro e w2 ⟨rfl, hb⟩
  have B2 : Hid (Below w.heap.size w w2) := B1.out.trans (hb.mono B1.out.size)
  clear hb q0 q1
  go_wp2_with fail
  go_ret
  exact ⟨rfl, B2.out⟩

set_option maxHeartbeats 400000 in
set_option maxRecDepth 100000 in
theorem lifted (os : Os) (started : os.Started) (H : Type) (enc : TypeId × Value → H) :
    ReturnsInHanded {} Try.checked os 4 .any (Rows.progSaysSpec.pre6 enc Try.prog Try.f4 Rows.progSaysRow.domain false) (Rows.progSaysSpec.post enc Try.prog Try.f4 false true false false) := by
  refine returnsInHanded_of_change_sized (C := Try.checked) own started (by kernel_rfl) Try.func4
    (ChangeSpec.witness6 (enc := enc) (C := Try.checked) false ⟨#[], #[.int .i64 0, .agg #[.int .i64 0, .int .i64 0], .int .i64 0, .int .i64 0], []⟩ 8 (by kernel_rfl) (by kernel_rfl) (by kernel_rfl) (by kernel_rfl)) ?_
  intro W base args ds gs before hval0 hW _ hsz0 _
  have hval : ∀ (j : Nat) t v, Try.f4.params[j]? = some t → args[j]? = some v → Value.okWide Try.prog W .any base t v := hval0
  have hW' := hW
  obtain ⟨p, q, hA0, hV, rfl, hfz, hnd⟩ := hW
  have hA : DataW.TrodAll enc Try.prog W 0 (fun _ => true) true Try.f4.params.toList args.toList ds p := hA0
  have hsz : (DataW.weightsEach Try.prog (Try.f4.params.toList ++ Rows.progSaysSpec.plain.varTypes Try.prog) (ds ++ gs)).all (fun x => decide (x ≤ reachBytes)) = true := hsz0
  rw [Try.params4] at hA hval hsz
  obtain ⟨v0, vs0, d0, ds0, p0, q0, hargs, rfl, rfl, h0, r0⟩ := trodAll_cons hA
  obtain ⟨v1, vs1, d1, ds1, p1, q1, rfl, rfl, rfl, h1, r1⟩ := trodAll_cons r0
  obtain ⟨v2, vs2, d2, ds2, p2, q2, rfl, rfl, rfl, h2, r2⟩ := trodAll_cons r1
  obtain ⟨v3, vs3, d3, ds3, p3, q3, rfl, rfl, rfl, h3, r3⟩ := trodAll_cons r2
  obtain ⟨rfl, rfl, rfl⟩ := trodAll_nil r3
  obtain rfl : args = #[v0, v1, v2, v3] := by cases args; simp_all
  obtain ⟨rfl, rfl⟩ := trodVars_none hV
  have k0 := h0
  have lt0 : ∀ x ∈ p0, x.block < W.heap.size := by obtain ⟨m, hm⟩ := k0; exact DataW.trod_lt m _ _ _ hm
  have k1 := h1
  have lt1 : ∀ x ∈ p1, x.block < W.heap.size := by obtain ⟨m, hm⟩ := k1; exact DataW.trod_lt m _ _ _ hm
  have k2 := h2
  have lt2 : ∀ x ∈ p2, x.block < W.heap.size := by obtain ⟨m, hm⟩ := k2; exact DataW.trod_lt m _ _ _ hm
  have k3 := h3
  have lt3 : ∀ x ∈ p3, x.block < W.heap.size := by obtain ⟨m, hm⟩ := k3; exact DataW.trod_lt m _ _ _ hm
  obtain ⟨n0, rfl, _, _, wf0⟩ := open_int Try.underlying3 (hval 0 3 v0 rfl rfl) h0
  have hI0 := bounds_i64 wf0
  obtain ⟨m1, rfl, hM1⟩ := open_pair Try.underlying23 (by kernel_rfl) rfl rfl rfl rfl (okWide_struct Try.underlying23 (hval 1 23 v1 rfl rfl)) h1
  obtain ⟨n2, rfl, _, _, wf2⟩ := open_int Try.underlying3 (hval 2 3 v2 rfl rfl) h2
  have hI2 := bounds_i64 wf2
  obtain ⟨n3, rfl, _, _, wf3⟩ := open_int Try.underlying3 (hval 3 3 v3 rfl rfl) h3
  have hI3 := bounds_i64 wf3
  clear hA0 hval0
  refine (walk n0 m1 n2 n3 W hI0 hM1 hI2 hI3).mono fun e W' ⟨he, bel⟩ => ?_
  subst he
  exact ⟨_, rfl, _, _, _, [], _, [], hW', trodAll_mk1 (shut_bool Try.underlying4 _), (trodAll_cons_mk (Below.trod laidOut (by kernel_rfl) (of_decide_eq_true (by kernel_rfl)) k0 bel lt0) (trodAll_cons_mk (Below.trod laidOut (by kernel_rfl) (of_decide_eq_true (by kernel_rfl)) k1 bel lt1) (trodAll_cons_mk (Below.trod laidOut (by kernel_rfl) (of_decide_eq_true (by kernel_rfl)) k2 bel lt2) (trodAll_cons_mk (Below.trod laidOut (by kernel_rfl) (of_decide_eq_true (by kernel_rfl)) k3 bel lt3) trodAll_mk0)))), rfl, bel.frame _, fun h => by cases h⟩

theorem over : Rows.progSaysRow.holds Try.pinned (OpenSpec.ofChange Rows.progSaysSpec) :=
  OpenClaim.holds_of_wide 4 Try.f4 rfl rfl rfl rfl rfl rfl rfl ⟨rfl, rfl, rfl, rfl, rfl⟩ rfl rfl rfl rfl rfl (by kernel_rfl) Try.func4 (by kernel_rfl)
    (of_decide_eq_true (by kernel_rfl)) (by unfold Func.isWrapper; first | (rw [if_pos (by decide +kernel)]; kernel_rfl) | (rw [if_neg (by decide +kernel)]; exact ⟨rfl, rfl⟩))
    (fun os started H enc _ => lifted os started H enc)

/-- The statement. -/
theorem proved : Rows.ProgSaysSaid := over
#print axioms proved
end Go.Proofs.Ytokbfgopemgbcaa.progSays
