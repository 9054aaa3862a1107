/-
  For every worker, number of vertices and number of workers owner.Mine answers what P6.2 says (the law OwnerMines returns true); no condition.
-/
import Derived.Test.YtpibgogfnphceaaMineWalk
import Derived.Test.YtpibgogfnphceaaRefOwner
import Derived.Test.YtpibgogfnphceaaSameNums
import Derived.WalkKit
import Derived.ProofKit
import Derived.OpenShut
import Derived.ShutString
import Derived.SizedLaws
import Derived.ChangeOld
import Derived.Below
namespace Go.Proofs.Ytpibgogfnphceaa.ownerMines
open Go.ChangeShapes Go.WideShapes Go.ChangeAt Go.RowKit

theorem own : ownKnob Try.prog.godebug = none := by kernel_rfl
theorem laidOut : laidOutB Try.prog = true := by kernel_rfl

set_option maxHeartbeats 1000000 in
set_option maxRecDepth 100000 in
theorem walk (n0 : Int) (n1 : Int) (n2 : Int) (w : World) (hI0 : -9223372036854775808 ≤ n0 ∧ n0 ≤ 9223372036854775807) (hI1 : -9223372036854775808 ≤ n1 ∧ n1 ≤ 9223372036854775807) (hI2 : -9223372036854775808 ≤ n2 ∧ n2 ≤ 9223372036854775807) :
    Calls Try.prog 4 #[.int .i64 n0, .int .i64 n1, .int .i64 n2] w fun e w' => e = .returned (.bool true) ∧ Below w.heap.size w w' := by
  have _u := hI0
  clear _u
  have _u := hI1
  clear _u
  have _u := hI2
  clear _u
  have HA : Hid (∀ X, Calls Try.prog 10 #[.int .i64 n0, .int .i64 n1, .int .i64 n2] X fun e w' => ∃ v', e = .returned (.tuple #[v', .int .i64 (errO n0 n2 n1 n2)]) ∧ InR w' v' (okL (errO n0 n2 n1 n2) (mineL n0.toNat n1.toNat n2.toNat)) ∧ Below X.heap.size X w') := fun X => by
    refine (mine_any n0 n1 n2 X).mono ?_
    rintro e w' ⟨v', he, ho, hb⟩
    exact ⟨v', he, RowK.own encI_len ho, hb⟩
  have HR : Hid (∀ X, Calls Try.prog 11 #[.int .i64 n0, .int .i64 n1, .int .i64 n2] X fun e w' => ∃ v', e = .returned (.tuple #[v', .int .i64 (errO n0 n2 n1 n2)]) ∧ InR w' v' (okL (errO n0 n2 n1 n2) (mineL n0.toNat n1.toNat n2.toNat)) ∧ Below X.heap.size X w') := fun X => by
    refine (mineOf_any n0 n1 n2 X hI2).mono ?_
    rintro e w' ⟨v', he, ho, hb⟩
    exact ⟨v', he, RowK.own encI_len ho, hb⟩
  clear hI0 hI1 hI2
  generalize okL (errO n0 n2 n1 n2) (mineL n0.toNat n1.toNat n2.toNat) = L at *
  generalize errO n0 n2 n1 n2 = f at *
  have hf : (f == f) = true := by simp
  go_enter Try.func4, Try.ntmps4
  go_wp2_with fail
  refine (HA.out _).mono ?_
  rintro e w1 ⟨va, rfl, hr1, hb1⟩
  have R1 : Hid (InR w1 va L) := hr1
  have B1 : Hid (Below w.heap.size w w1) := hb1
  obtain ⟨aa, ac, rfl⟩ := hr1.shape
  clear hr1 hb1
  go_wp2_with fail
  refine (HR.out _).mono ?_
  rintro e w2 ⟨vb, rfl, hr2, hb2⟩
  have R2 : Hid (InR w2 vb L) := hr2
  have QA : Hid (InR w2 (.slice aa L.length ac) L) := R1.out.below hb2 (Nat.le_refl _)
  have B2 : Hid (Below w.heap.size w w2) := B1.out.trans (hb2.mono B1.out.size)
  obtain ⟨ba, bc, rfl⟩ := hr2.shape
  clear hr2 hb2 R1
  go_wp2_with fail
  refine (sameInts_yes _ _ L _ QA.out R2.out).mono ?_
  rintro e w4 ⟨rfl, hb4⟩
  have B4 : Hid (Below w.heap.size w w4) := B2.out.trans (hb4.mono B2.out.size)
  clear hb4
  go_wp2_with fail
  go_ret
  exact ⟨ret_bool (by simp), B4.out⟩

set_option maxHeartbeats 400000 in
set_option maxRecDepth 100000 in
theorem lifted (os : Os) (started : os.Started) (H : Type) (enc : TypeId × Value → H) :
    ReturnsInHanded {} Try.checked os 4 .any (Rows.ownerMinesSpec.pre6 enc Try.prog Try.f4 Rows.ownerMinesRow.domain false) (Rows.ownerMinesSpec.post enc Try.prog Try.f4 false true false false) := by
  refine returnsInHanded_of_change_sized (C := Try.checked) own started (by kernel_rfl) Try.func4
    (ChangeSpec.witness6 (enc := enc) (C := Try.checked) false ⟨#[], #[.int .i64 0, .int .i64 0, .int .i64 0], []⟩ 8 (by kernel_rfl) (by kernel_rfl) (by kernel_rfl) (by kernel_rfl)) ?_
  intro W base args ds gs before hval0 hW _ hsz0 _
  have hval : ∀ (j : Nat) t v, Try.f4.params[j]? = some t → args[j]? = some v → Value.okWide Try.prog W .any base t v := hval0
  have hW' := hW
  obtain ⟨p, q, hA0, hV, rfl, hfz, hnd⟩ := hW
  have hA : DataW.TrodAll enc Try.prog W 0 (fun _ => true) true Try.f4.params.toList args.toList ds p := hA0
  have hsz : (DataW.weightsEach Try.prog (Try.f4.params.toList ++ Rows.ownerMinesSpec.plain.varTypes Try.prog) (ds ++ gs)).all (fun x => decide (x ≤ reachBytes)) = true := hsz0
  rw [Try.params4] at hA hval hsz
  obtain ⟨v0, vs0, d0, ds0, p0, q0, hargs, rfl, rfl, h0, r0⟩ := trodAll_cons hA
  obtain ⟨v1, vs1, d1, ds1, p1, q1, rfl, rfl, rfl, h1, r1⟩ := trodAll_cons r0
  obtain ⟨v2, vs2, d2, ds2, p2, q2, rfl, rfl, rfl, h2, r2⟩ := trodAll_cons r1
  obtain ⟨rfl, rfl, rfl⟩ := trodAll_nil r2
  obtain rfl : args = #[v0, v1, v2] := by cases args; simp_all
  obtain ⟨rfl, rfl⟩ := trodVars_none hV
  have k0 := h0
  have lt0 : ∀ x ∈ p0, x.block < W.heap.size := by obtain ⟨m, hm⟩ := k0; exact DataW.trod_lt m _ _ _ hm
  have k1 := h1
  have lt1 : ∀ x ∈ p1, x.block < W.heap.size := by obtain ⟨m, hm⟩ := k1; exact DataW.trod_lt m _ _ _ hm
  have k2 := h2
  have lt2 : ∀ x ∈ p2, x.block < W.heap.size := by obtain ⟨m, hm⟩ := k2; exact DataW.trod_lt m _ _ _ hm
  obtain ⟨n0, rfl, _, _, wf0⟩ := open_int Try.underlying3 (hval 0 3 v0 rfl rfl) h0
  have hI0 := bounds_i64 wf0
  obtain ⟨n1, rfl, _, _, wf1⟩ := open_int Try.underlying3 (hval 1 3 v1 rfl rfl) h1
  have hI1 := bounds_i64 wf1
  obtain ⟨n2, rfl, _, _, wf2⟩ := open_int Try.underlying3 (hval 2 3 v2 rfl rfl) h2
  have hI2 := bounds_i64 wf2
  clear hA0 hval0
  refine (walk n0 n1 n2 W hI0 hI1 hI2).mono fun e W' ⟨he, bel⟩ => ?_
  subst he
  exact ⟨_, rfl, _, _, _, [], _, [], hW', trodAll_mk1 (shut_bool Try.underlying4 _), (trodAll_cons_mk (Below.trod laidOut (by kernel_rfl) (of_decide_eq_true (by kernel_rfl)) k0 bel lt0) (trodAll_cons_mk (Below.trod laidOut (by kernel_rfl) (of_decide_eq_true (by kernel_rfl)) k1 bel lt1) (trodAll_cons_mk (Below.trod laidOut (by kernel_rfl) (of_decide_eq_true (by kernel_rfl)) k2 bel lt2) trodAll_mk0))), rfl, bel.frame _, fun h => by cases h⟩

theorem over : Rows.ownerMinesRow.holds Try.pinned (OpenSpec.ofChange Rows.ownerMinesSpec) :=
  OpenClaim.holds_of_wide 4 Try.f4 rfl rfl rfl rfl rfl rfl rfl ⟨rfl, rfl, rfl, rfl, rfl⟩ rfl rfl rfl rfl rfl (by kernel_rfl) Try.func4 (by kernel_rfl)
    (of_decide_eq_true (by kernel_rfl)) (by unfold Func.isWrapper; first | (rw [if_pos (by decide +kernel)]; kernel_rfl) | (rw [if_neg (by decide +kernel)]; exact ⟨rfl, rfl⟩))
    (fun os started H enc _ => lifted os started H enc)

/-- The statement. -/
theorem proved : Rows.OwnerMinesSaid := over
#print axioms proved
end Go.Proofs.Ytpibgogfnphceaa.ownerMines
