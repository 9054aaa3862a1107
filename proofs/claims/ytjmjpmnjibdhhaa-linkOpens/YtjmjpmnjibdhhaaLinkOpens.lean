/-
  For every number link.Open answers what P10.2 says (the law LinkOpens returns true); no condition.
-/
import Derived.Test.YtjmjpmnjibdhhaaLinkOpen
import Derived.Test.YtjmjpmnjibdhhaaRefOpen
import Derived.Test.YtjmjpmnjibdhhaaLinkSame
import Derived.Test.YtjmjpmnjibdhhaaLinkArgs
import Derived.WalkKit
import Derived.ProofKit
import Derived.OpenShut
import Derived.ShutString
import Derived.SizedLaws
import Derived.ChangeOld
import Derived.Below
namespace Go.Proofs.Ytjmjpmnjibdhhaa.linkOpens
set_option maxRecDepth 100000
open Go.ChangeShapes Go.WideShapes Go.ChangeAt Go.RowKit

theorem own : ownKnob Try.prog.godebug = none := by kernel_rfl
theorem laidOut : laidOutB Try.prog = true := by kernel_rfl

set_option maxHeartbeats 1000000 in
set_option maxRecDepth 100000 in
theorem walk (n0 : Int) (w : World) (hI0 : -9223372036854775808 ≤ n0 ∧ n0 ≤ 9223372036854775807) :
    Calls Try.prog 3 #[.int .i64 n0] w fun e w' => e = .returned (.bool true) ∧ Below w.heap.size w w' := by
  have _u := hI0
  clear _u
  have C1 : Hid (∀ X, Calls Try.prog 9 #[.int .i64 n0] X (OpnP X n0)) := fun X => open_any n0 X
  have C2 : Hid (∀ X, Calls Try.prog 10 #[.int .i64 n0] X (OpnP X n0)) := fun X => refOpen_any n0 X
  unfold OpnP at C1 C2
  generalize okN (openE n0) n0 = ee at *
  generalize openE n0 = ff at *
  have hee : (ee == ee) = true := by simp
  have hff : (ff == ff) = true := by simp
  have h00 : ((0 : Int) == 0) = true := by simp
  go_enter Try.func3, Try.ntmps3
  go_wp2_with fail
  refine (C1.out _).mono ?_
  rintro E w1 ⟨rfl, hb1⟩
  have B1 : Hid (Below w.heap.size w w1) := hb1
  clear hb1
  go_upto_region 2 with fail
  obtain ⟨Q0, P0, B0, s1, s2⟩ := boxes2 w1 #[.int .i64 ee, .int .i64 0, .slice none 0 0] #[.int .i64 ee, .int .i64 0] 24 26 _ rfl
  generalize (w1.alloc (.cells #[.int .i64 ee, .int .i64 0, .slice none 0 0] 24)).alloc (.cells #[.int .i64 ee, .int .i64 0] 26) = W2 at *
  have B2 : Hid (Below w.heap.size w W2) := B1.out.trans (B0.mono B1.out.size)
  have SX : Hid (BX 24 W2 w1.heap.size #[.int .i64 ee, .int .i64 0, .slice none 0 0]) := Q0
  have RX : Hid (BX 26 W2 (w1.heap.size + 1) #[.int .i64 ee, .int .i64 0]) := P0
  clear Q0 P0 B0
  go_wp2_with fail
  refine (C2.out _).mono ?_
  rintro E w3 ⟨rfl, hb3⟩
  have B3 : Hid (Below w.heap.size w w3) := B2.out.trans (hb3.mono B2.out.size)
  have SX3 : Hid (BX 24 w3 w1.heap.size #[.int .i64 ee, .int .i64 0, .slice none 0 0]) := SX.out.below hb3 (by omega)
  have RX3 : Hid (BX 26 w3 (w1.heap.size + 1) #[.int .i64 ee, .int .i64 0]) := RX.out.below hb3 (by omega)
  have hs3 := hb3.size
  clear hb3
  go_upto_region 3 with fail
  obtain ⟨Q0, P0, B0, s3, s4⟩ := boxes2 w3 #[.int .i64 ee, .int .i64 0, .slice none 0 0] #[.int .i64 ee, .int .i64 0] 24 26 _ rfl
  generalize (w3.alloc (.cells #[.int .i64 ee, .int .i64 0, .slice none 0 0] 24)).alloc (.cells #[.int .i64 ee, .int .i64 0] 26) = W4 at *
  have B4 : Hid (Below w.heap.size w W4) := B3.out.trans (B0.mono B3.out.size)
  obtain ⟨a0, a1, a2, _⟩ := (SX3.out.below B0 (by omega)).all3
  obtain ⟨c0, c1, _⟩ := (RX3.out.below B0 (by omega)).all2
  obtain ⟨e0, e1, e2, _⟩ := Q0.all3
  obtain ⟨g0, g1, _⟩ := P0.all2
  clear Q0 P0 B0
  go_wp2_with fail
  refine (sameSender_yes ee 0 _ _ [] _ (RowK.nil _ _ _) (RowK.nil _ _ _)).mono ?_
  rintro E w5 ⟨rfl, hb5⟩
  have B5 : Hid (Below w.heap.size w w5) := B4.out.trans (hb5.mono B4.out.size)
  clear hb5 a0 a1 a2 c0 c1 e0 e1 e2 g0 g1
  go_wp2_with fail
  go_ret
  exact ⟨rfl, B5.out⟩

set_option maxHeartbeats 400000 in
set_option maxRecDepth 100000 in
theorem lifted (os : Os) (started : os.Started) (H : Type) (enc : TypeId × Value → H) :
    ReturnsInHanded {} Try.checked os 3 .any (Rows.linkOpensSpec.pre6 enc Try.prog Try.f3 Rows.linkOpensRow.domain false) (Rows.linkOpensSpec.post enc Try.prog Try.f3 false true false false) := by
  refine returnsInHanded_of_change_sized (C := Try.checked) own started (by kernel_rfl) Try.func3
    (ChangeSpec.witness6 (enc := enc) (C := Try.checked) false ⟨#[], #[.int .i64 0], []⟩ 8 (by kernel_rfl) (by kernel_rfl) (by kernel_rfl) (by kernel_rfl)) ?_
  intro W base args ds gs before hval0 hW _ hsz0 _
  have hval : ∀ (j : Nat) t v, Try.f3.params[j]? = some t → args[j]? = some v → Value.okWide Try.prog W .any base t v := hval0
  have hW' := hW
  obtain ⟨p, q, hA0, hV, rfl, hfz, hnd⟩ := hW
  have hA : DataW.TrodAll enc Try.prog W 0 (fun _ => true) true Try.f3.params.toList args.toList ds p := hA0
  have hsz : (DataW.weightsEach Try.prog (Try.f3.params.toList ++ Rows.linkOpensSpec.plain.varTypes Try.prog) (ds ++ gs)).all (fun x => decide (x ≤ reachBytes)) = true := hsz0
  rw [Try.params3] at hA hval hsz
  obtain ⟨v0, vs0, d0, ds0, p0, q0, hargs, rfl, rfl, h0, r0⟩ := trodAll_cons hA
  obtain ⟨rfl, rfl, rfl⟩ := trodAll_nil r0
  obtain rfl : args = #[v0] := by cases args; simp_all
  obtain ⟨rfl, rfl⟩ := trodVars_none hV
  have k0 := h0
  have lt0 : ∀ x ∈ p0, x.block < W.heap.size := by obtain ⟨m, hm⟩ := k0; exact DataW.trod_lt m _ _ _ hm
  obtain ⟨n0, rfl, _, _, wf0⟩ := open_int Try.underlying3 (hval 0 3 v0 rfl rfl) h0
  have hI0 := bounds_i64 wf0
  clear hA0 hval0
  refine (walk n0 W hI0).mono fun e W' ⟨he, bel⟩ => ?_
  subst he
  exact ⟨_, rfl, _, _, _, [], _, [], hW', trodAll_mk1 (shut_bool Try.underlying4 _), (trodAll_cons_mk (Below.trod laidOut (by kernel_rfl) (of_decide_eq_true (by kernel_rfl)) k0 bel lt0) trodAll_mk0), rfl, bel.frame _, fun h => by cases h⟩

theorem over : Rows.linkOpensRow.holds Try.pinned (OpenSpec.ofChange Rows.linkOpensSpec) :=
  OpenClaim.holds_of_wide 3 Try.f3 rfl rfl rfl rfl rfl rfl rfl ⟨rfl, rfl, rfl, rfl, rfl⟩ rfl rfl rfl rfl rfl (by kernel_rfl) Try.func3 (by kernel_rfl)
    (of_decide_eq_true (by kernel_rfl)) (by unfold Func.isWrapper; first | (rw [if_pos (by decide +kernel)]; kernel_rfl) | (rw [if_neg (by decide +kernel)]; exact ⟨rfl, rfl⟩))
    (fun os started H enc _ => lifted os started H enc)

/-- The statement. -/
theorem proved : Rows.LinkOpensSaid := over
#print axioms proved
end Go.Proofs.Ytjmjpmnjibdhhaa.linkOpens
