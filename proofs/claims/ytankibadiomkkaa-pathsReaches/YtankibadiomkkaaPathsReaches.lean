/-
  For every graph and vertex paths.Reach answers what P12.3 says (the law PathsReaches returns true, and its arguments read as before); no condition.
-/
import Derived.Test.YtankibadiomkkaaGraphOpen
import Derived.Test.YtankibadiomkkaaFaceReach
import Derived.Test.YtankibadiomkkaaRefReach
import Derived.Test.YtankibadiomkkaaSameBools
import Derived.Test.YtankibadiomkkaaGraphCopy
import Derived.WalkKit
import Derived.ProofKit
import Derived.OpenShut
import Derived.ShutString
import Derived.SizedLaws
import Derived.ChangeOld
import Derived.Below
namespace Go.Proofs.Ytankibadiomkkaa.pathsReaches
set_option maxRecDepth 100000
open Go.ChangeShapes Go.WideShapes Go.ChangeAt Go.RowKit

theorem own : ownKnob Try.prog.godebug = none := by kernel_rfl
theorem laidOut : laidOutB Try.prog = true := by kernel_rfl

set_option maxHeartbeats 1000000 in
set_option maxRecDepth 100000 in
theorem walk (v0 : Value) (n0 : Int) (es0 : List Ed) (n1 : Int) (w : World) (hN0 : i64B n0) (hR0 : EdR w v0 es0) (hB0 : ∀ x ∈ es0, edB x) (hL0 : es0.length * 24 ≤ 140737488351232) (hI1 : -9223372036854775808 ≤ n1 ∧ n1 ≤ 9223372036854775807) :
    Calls Try.prog 5 #[.agg #[.int .i64 n0, v0], .int .i64 n1] w fun e w' => e = .returned (.bool true) ∧ Below w.heap.size w w' := by
  have _u := hN0
  clear _u
  have _u := hR0
  clear _u
  have _u := hB0
  clear _u
  have _u := hL0
  clear _u
  have _u := hI1
  clear _u
  have HR : Hid (EdR w v0 es0) := hR0
  obtain ⟨a, cap, rfl⟩ := hR0.shape
  have CG : Hid (∀ X, EdR X (.slice a es0.length cap) es0 → Calls Try.prog 9 #[.agg #[.int .i64 n0, .slice a es0.length cap]] X fun e w' => ∃ v', e = .returned (.agg #[.int .i64 n0, v']) ∧ EdR w' v' es0 ∧ Below X.heap.size X w') := fun X hX => graphs_any _ es0 n0 X hX hL0
  have CP : Hid (∀ X v, EdR X v es0 → Calls Try.prog 16 #[.agg #[.int .i64 n0, v], .int .i64 n1] X (BolP X (errV n0 es0 n1) (reachF n0.toNat es0 n1))) := fun X v hX => pReach_any v es0 n0 n1 X hX
  have CQ : Hid (∀ X v, EdR X v es0 → Calls Try.prog 17 #[.agg #[.int .i64 n0, v], .int .i64 n1] X (BolP X (errV n0 es0 n1) (reachF n0.toNat es0 n1))) := fun X v hX => reachOf_any v es0 n0 n1 X hX
  unfold BolP at CP CQ
  generalize okL (errV n0 es0 n1) (reachF n0.toNat es0 n1) = L at *
  generalize errV n0 es0 n1 = q at *
  have hq : (q == q) = true := by simp
  obtain ⟨W0, hW0⟩ : ∃ W0, W0 = w.alloc (.cells #[.int .i64 n0, .slice a es0.length cap] 24) := ⟨_, rfl⟩
  have Q0 : BX 24 W0 w.heap.size #[.int .i64 n0, .slice a es0.length cap] := by rw [hW0]; exact BX.new _ _ _
  have BH : Hid (Below w.heap.size w W0) := by show Below _ _ _; rw [hW0]; exact below_alloc _ _
  have s1 : w.heap.size + 1 ≤ W0.heap.size := by rw [hW0]; simp
  have HK : Hid (∀ X, Below W0.heap.size W0 X → BX 24 X w.heap.size #[.int .i64 n0, .slice a es0.length cap] ∧ Below w.heap.size w X ∧ EdR X (.slice a es0.length cap) es0) := fun X hX => ⟨Q0.below hX (by omega), BH.out.trans (hX.mono (by omega)), HR.out.below (BH.out.trans (hX.mono (by omega))) (Nat.le_refl _)⟩
  have R0 : Hid (EdR W0 (.slice a es0.length cap) es0) := HR.out.below BH.out (Nat.le_refl _)
  obtain ⟨q0, q1, _⟩ := Q0.all2
  clear Q0 hR0 hB0 hL0
  go_enter Try.func5, Try.ntmps5
  go_upto_region 1 with fail
  rw [← hW0]
  clear hW0
  go_wp2_with fail
  refine (CG.out _ R0.out).mono ?_
  rintro e w1 ⟨v1, rfl, hr1, hb1⟩
  have A1 : Hid (Below W0.heap.size W0 w1) := hb1
  have R1 : Hid (EdR w1 v1 es0) := hr1
  obtain ⟨ca, cc, rfl⟩ := hr1.shape
  clear hr1 hb1 q0 q1
  go_wp2_with fail
  refine (CP.out _ _ R1.out).mono ?_
  rintro e w2 ⟨v2, rfl, ho2, hb2⟩
  have A2 : Hid (Below W0.heap.size W0 w2) := A1.out.trans (hb2.mono A1.out.size)
  have R2 : Hid (BlR w2 v2 L) := BlR.ownd ho2
  obtain ⟨da, dc, rfl⟩ := R2.out.shape
  clear ho2 hb2 A1 R1
  obtain ⟨Q2, _, E2⟩ := HK.out _ A2.out
  have S2 : Hid (EdR w2 (.slice a es0.length cap) es0) := E2
  obtain ⟨q0, q1, _⟩ := Q2.all2
  clear Q2 E2
  go_wp2_with fail
  refine (CQ.out _ _ S2.out).mono ?_
  rintro e w3 ⟨v3, rfl, ho3, hb3⟩
  have A3 : Hid (Below W0.heap.size W0 w3) := A2.out.trans (hb3.mono A2.out.size)
  have R3 : Hid (BlR w3 v3 L) := BlR.ownd ho3
  have T3 : Hid (BlR w3 (.slice da L.length dc) L) := R2.out.below hb3 (Nat.le_refl _)
  obtain ⟨ea, ec, rfl⟩ := R3.out.shape
  have B3 : Hid (Below w.heap.size w w3) := (HK.out _ A3.out).2.1
  clear ho3 hb3 q0 q1
  go_wp2_with fail
  refine (sameBools_yes _ _ L _ T3.out R3.out).mono ?_
  rintro e w4 ⟨rfl, hb4⟩
  have B4 : Hid (Below w.heap.size w w4) := B3.out.trans (hb4.mono B3.out.size)
  clear hb4
  go_wp2_with fail
  go_ret
  exact ⟨rfl, B4.out⟩

set_option maxHeartbeats 400000 in
set_option maxRecDepth 100000 in
theorem lifted (os : Os) (started : os.Started) (H : Type) (enc : TypeId × Value → H) :
    ReturnsInHanded {} Try.checked os 5 .any (Rows.pathsReachesSpec.pre6 enc Try.prog Try.f5 Rows.pathsReachesRow.domain false) (Rows.pathsReachesSpec.post enc Try.prog Try.f5 false true false false) := by
  refine returnsInHanded_of_change_sized (C := Try.checked) own started (by kernel_rfl) Try.func5
    (ChangeSpec.witness6 (enc := enc) (C := Try.checked) false ⟨#[], #[.agg #[.int .i64 0, .slice none 0 0], .int .i64 0], []⟩ 8 (by kernel_rfl) (by kernel_rfl) (by kernel_rfl) (by kernel_rfl)) ?_
  intro W base args ds gs before hval0 hW _ hsz0 _
  have hval : ∀ (j : Nat) t v, Try.f5.params[j]? = some t → args[j]? = some v → Value.okWide Try.prog W .any base t v := hval0
  have hW' := hW
  obtain ⟨p, q, hA0, hV, rfl, hfz, hnd⟩ := hW
  have hA : DataW.TrodAll enc Try.prog W 0 (fun _ => true) true Try.f5.params.toList args.toList ds p := hA0
  have hsz : (DataW.weightsEach Try.prog (Try.f5.params.toList ++ Rows.pathsReachesSpec.plain.varTypes Try.prog) (ds ++ gs)).all (fun x => decide (x ≤ reachBytes)) = true := hsz0
  rw [Try.params5] at hA hval hsz
  obtain ⟨v0, vs0, d0, ds0, p0, q0, hargs, rfl, rfl, h0, r0⟩ := trodAll_cons hA
  obtain ⟨v1, vs1, d1, ds1, p1, q1, rfl, rfl, rfl, h1, r1⟩ := trodAll_cons r0
  obtain ⟨rfl, rfl, rfl⟩ := trodAll_nil r1
  obtain rfl : args = #[v0, v1] := by cases args; simp_all
  obtain ⟨rfl, rfl⟩ := trodVars_none hV
  have k0 := h0
  have lt0 : ∀ x ∈ p0, x.block < W.heap.size := by obtain ⟨m, hm⟩ := k0; exact DataW.trod_lt m _ _ _ hm
  have hw0 : ∀ m ∈ d0.weights Try.prog 24, m ≤ reachBytes := fun m hm => by simpa using List.all_eq_true.1 hsz _ (DataW.weights_mem_each (j := 0) (t := 24) rfl rfl m hm)
  have k1 := h1
  have lt1 : ∀ x ∈ p1, x.block < W.heap.size := by obtain ⟨m, hm⟩ := k1; exact DataW.trod_lt m _ _ _ hm
  obtain ⟨n0, w0, es0, rfl, hN0, hR0, hB0, hL0⟩ := open_graph (okWide_struct Try.underlying24 (hval 0 24 v0 rfl rfl)) h0 hw0
  obtain ⟨n1, rfl, _, _, wf1⟩ := open_int Try.underlying3 (hval 1 3 v1 rfl rfl) h1
  have hI1 := bounds_i64 wf1
  clear hA0 hval0
  refine (walk w0 n0 es0 n1 W hN0 hR0 hB0 hL0 hI1).mono fun e W' ⟨he, bel⟩ => ?_
  subst he
  exact ⟨_, rfl, _, _, _, [], _, [], hW', trodAll_mk1 (shut_bool Try.underlying4 _), (trodAll_cons_mk (Below.trod laidOut (by kernel_rfl) (of_decide_eq_true (by kernel_rfl)) k0 bel lt0) (trodAll_cons_mk (Below.trod laidOut (by kernel_rfl) (of_decide_eq_true (by kernel_rfl)) k1 bel lt1) trodAll_mk0)), rfl, bel.frame _, fun h => by cases h⟩

theorem over : Rows.pathsReachesRow.holds Try.pinned (OpenSpec.ofChange Rows.pathsReachesSpec) :=
  OpenClaim.holds_of_wide 5 Try.f5 rfl rfl rfl rfl rfl rfl rfl ⟨rfl, rfl, rfl, rfl, rfl⟩ rfl rfl rfl rfl rfl (by kernel_rfl) Try.func5 (by kernel_rfl)
    (of_decide_eq_true (by kernel_rfl)) (by unfold Func.isWrapper; first | (rw [if_pos (by decide +kernel)]; kernel_rfl) | (rw [if_neg (by decide +kernel)]; exact ⟨rfl, rfl⟩))
    (fun os started H enc _ => lifted os started H enc)

/-- The statement. -/
theorem proved : Rows.PathsReachesSaid := over
#print axioms proved
end Go.Proofs.Ytankibadiomkkaa.pathsReaches
