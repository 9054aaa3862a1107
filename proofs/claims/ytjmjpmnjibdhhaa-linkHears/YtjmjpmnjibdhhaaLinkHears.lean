/-
  For every receiver and packet link.Hear answers what P10.6 says (the law LinkHears returns true); no condition.
-/
import Derived.Test.YtjmjpmnjibdhhaaLinkHear
import Derived.Test.YtjmjpmnjibdhhaaRefHeard
import Derived.Test.YtjmjpmnjibdhhaaLinkSame
import Derived.Test.YtjmjpmnjibdhhaaLinkArgs
import Derived.WalkKit
import Derived.ProofKit
import Derived.OpenShut
import Derived.ShutString
import Derived.SizedLaws
import Derived.ChangeOld
import Derived.Below
namespace Go.Proofs.Ytjmjpmnjibdhhaa.linkHears
set_option maxRecDepth 100000
open Go.ChangeShapes Go.WideShapes Go.ChangeAt Go.RowKit

theorem own : ownKnob Try.prog.godebug = none := by kernel_rfl
theorem laidOut : laidOutB Try.prog = true := by kernel_rfl

set_option maxHeartbeats 1000000 in
set_option maxRecDepth 100000 in
theorem walk (m0 : Ml) (x1 n1 : Int) (m1 : Ml) (w : World) (hM0 : mlB m0) (hM1 : i64B x1 ∧ i64B n1 ∧ mlB m1) :
    Calls Try.prog 7 #[.agg #[.int .i64 m0.1, .int .i64 m0.2], .agg #[.int .i64 x1, .int .i64 n1, .int .i64 m1.1, .int .i64 m1.2]] w fun e w' => e = .returned (.bool true) ∧ Below w.heap.size w w' := by
  have _u := hM0
  clear _u
  have _u := hM1
  clear _u
  have C1 : Hid (∀ X, Calls Try.prog 20 #[.agg #[.int .i64 m0.1, .int .i64 m0.2], .agg #[.int .i64 x1, .int .i64 n1, .int .i64 m1.1, .int .i64 m1.2]] X (HeaP X (hearE m0.1 m0.2 x1) m0.1 (hearW m0.2 n1) (hearL m0.2 n1 m1))) := fun X => hear_any m0.1 m0.2 x1 n1 m1 X
  have C2 : Hid (∀ X, Calls Try.prog 21 #[.agg #[.int .i64 m0.1, .int .i64 m0.2], .agg #[.int .i64 x1, .int .i64 n1, .int .i64 m1.1, .int .i64 m1.2]] X (HeaP X (hearE m0.1 m0.2 x1) m0.1 (hearW m0.2 n1) (hearL m0.2 n1 m1))) := fun X => refHeard_any m0.1 m0.2 x1 n1 m1 X
  unfold HeaP at C1 C2
  generalize okL (hearE m0.1 m0.2 x1) (hearL m0.2 n1 m1) = L at *
  generalize okN (hearE m0.1 m0.2 x1) m0.1 = ee at *
  generalize okN (hearE m0.1 m0.2 x1) (hearW m0.2 n1) = kk at *
  generalize hearE m0.1 m0.2 x1 = ff at *
  have hff : (ff == ff) = true := by simp
  have hee : (ee == ee) = true := by simp
  have hkk : (kk == kk) = true := by simp
  go_enter Try.func7, Try.ntmps7
  go_upto_region 1 with fail
  obtain ⟨Q0, P0, B0, s1, s2⟩ := boxes2 w #[.int .i64 m0.1, .int .i64 m0.2] #[.int .i64 x1, .int .i64 n1, .int .i64 m1.1, .int .i64 m1.2] 26 48 _ rfl
  generalize (w.alloc (.cells #[.int .i64 m0.1, .int .i64 m0.2] 26)).alloc (.cells #[.int .i64 x1, .int .i64 n1, .int .i64 m1.1, .int .i64 m1.2] 48) = W0 at *
  have BH : Hid (Below w.heap.size w W0) := B0
  have RX : Hid (BX 26 W0 w.heap.size #[.int .i64 m0.1, .int .i64 m0.2]) := Q0
  have MX : Hid (BX 48 W0 (w.heap.size + 1) #[.int .i64 x1, .int .i64 n1, .int .i64 m1.1, .int .i64 m1.2]) := P0
  obtain ⟨q0, q1, _⟩ := Q0.all2
  obtain ⟨p0, p1, p2, p3⟩ := P0.all4
  clear Q0 P0 B0
  go_wp2_with fail
  refine (C1.out _).mono ?_
  rintro E w1 ⟨v1, rfl, ho1, hb1⟩
  have B1 : Hid (Below W0.heap.size W0 w1) := hb1
  have hs1 := hb1.size
  have R1 : Hid (MlR w1 v1 L) := MlR.ownd ho1
  obtain ⟨ya, yc, rfl⟩ := (MlR.ownd ho1).shape
  clear ho1 hb1 q0 q1 p0 p1 p2 p3
  go_upto_region 2 with fail
  obtain ⟨Q0, P0, B0, s3, s4⟩ := boxes2 w1 #[.int .i64 ee, .int .i64 kk] #[.int .i64 ee, .int .i64 kk] 26 44 _ rfl
  generalize (w1.alloc (.cells #[.int .i64 ee, .int .i64 kk] 26)).alloc (.cells #[.int .i64 ee, .int .i64 kk] 44) = W2 at *
  have B2 : Hid (Below W0.heap.size W0 W2) := B1.out.trans (B0.mono hs1)
  have R2 : Hid (MlR W2 (.slice ya L.length yc) L) := R1.out.below B0 (Nat.le_refl _)
  have AX : Hid (BX 26 W2 w1.heap.size #[.int .i64 ee, .int .i64 kk]) := Q0
  have XX : Hid (BX 44 W2 (w1.heap.size + 1) #[.int .i64 ee, .int .i64 kk]) := P0
  have hs2 := B2.out.size
  obtain ⟨q0, q1, _⟩ := (RX.out.below B2.out (by omega)).all2
  obtain ⟨p0, p1, p2, p3⟩ := (MX.out.below B2.out (by omega)).all4
  clear Q0 P0 B0 R1
  go_wp2_with fail
  refine (C2.out _).mono ?_
  rintro E w3 ⟨v3, rfl, ho3, hb3⟩
  have B3 : Hid (Below W2.heap.size W2 w3) := hb3
  have hs3 := hb3.size
  have R3 : Hid (MlR w3 v3 L) := MlR.ownd ho3
  obtain ⟨za, zc, rfl⟩ := (MlR.ownd ho3).shape
  clear ho3 hb3 q0 q1 p0 p1 p2 p3
  go_upto_region 3 with fail
  obtain ⟨Q0, P0, B0, s5, s6⟩ := boxes2 w3 #[.int .i64 ee, .int .i64 kk] #[.int .i64 ee, .int .i64 kk] 26 44 _ rfl
  generalize (w3.alloc (.cells #[.int .i64 ee, .int .i64 kk] 26)).alloc (.cells #[.int .i64 ee, .int .i64 kk] 44) = W4 at *
  have B4 : Hid (Below W2.heap.size W2 W4) := B3.out.trans (B0.mono hs3)
  have R4 : Hid (MlR W4 (.slice za L.length zc) L) := R3.out.below B0 (Nat.le_refl _)
  have B04 : Hid (Below w.heap.size w W4) := BH.out.trans ((B2.out.trans (B4.out.mono (by omega))).mono (by omega))
  obtain ⟨q0, q1, _⟩ := (AX.out.below B4.out (by omega)).all2
  obtain ⟨p0, p1, _⟩ := (XX.out.below B4.out (by omega)).all2
  obtain ⟨c0, c1, _⟩ := Q0.all2
  obtain ⟨d0, d1, _⟩ := P0.all2
  clear Q0 P0 B0 R3
  go_wp2_with fail
  refine (sameMails_yes _ _ L _ (R2.out.below B4.out (Nat.le_refl _)) R4.out).mono ?_
  rintro E w5 ⟨rfl, hb5⟩
  have B5 : Hid (Below w.heap.size w w5) := B04.out.trans (hb5.mono B04.out.size)
  clear hb5 q0 q1 p0 p1 c0 c1 d0 d1
  go_wp2_with fail
  go_ret
  exact ⟨rfl, B5.out⟩

set_option maxHeartbeats 400000 in
set_option maxRecDepth 100000 in
theorem lifted (os : Os) (started : os.Started) (H : Type) (enc : TypeId × Value → H) :
    ReturnsInHanded {} Try.checked os 7 .any (Rows.linkHearsSpec.pre6 enc Try.prog Try.f7 Rows.linkHearsRow.domain false) (Rows.linkHearsSpec.post enc Try.prog Try.f7 false true false false) := by
  refine returnsInHanded_of_change_sized (C := Try.checked) own started (by kernel_rfl) Try.func7
    (ChangeSpec.witness6 (enc := enc) (C := Try.checked) false ⟨#[], #[.agg #[.int .i64 0, .int .i64 0], .agg #[.int .i64 0, .int .i64 0, .int .i64 0, .int .i64 0]], []⟩ 8 (by kernel_rfl) (by kernel_rfl) (by kernel_rfl) (by kernel_rfl)) ?_
  intro W base args ds gs before hval0 hW _ hsz0 _
  have hval : ∀ (j : Nat) t v, Try.f7.params[j]? = some t → args[j]? = some v → Value.okWide Try.prog W .any base t v := hval0
  have hW' := hW
  obtain ⟨p, q, hA0, hV, rfl, hfz, hnd⟩ := hW
  have hA : DataW.TrodAll enc Try.prog W 0 (fun _ => true) true Try.f7.params.toList args.toList ds p := hA0
  have hsz : (DataW.weightsEach Try.prog (Try.f7.params.toList ++ Rows.linkHearsSpec.plain.varTypes Try.prog) (ds ++ gs)).all (fun x => decide (x ≤ reachBytes)) = true := hsz0
  rw [Try.params7] at hA hval hsz
  obtain ⟨v0, vs0, d0, ds0, p0, q0, hargs, rfl, rfl, h0, r0⟩ := trodAll_cons hA
  obtain ⟨v1, vs1, d1, ds1, p1, q1, rfl, rfl, rfl, h1, r1⟩ := trodAll_cons r0
  obtain ⟨rfl, rfl, rfl⟩ := trodAll_nil r1
  obtain rfl : args = #[v0, v1] := by cases args; simp_all
  obtain ⟨rfl, rfl⟩ := trodVars_none hV
  have k0 := h0
  have lt0 : ∀ x ∈ p0, x.block < W.heap.size := by obtain ⟨m, hm⟩ := k0; exact DataW.trod_lt m _ _ _ hm
  have k1 := h1
  have lt1 : ∀ x ∈ p1, x.block < W.heap.size := by obtain ⟨m, hm⟩ := k1; exact DataW.trod_lt m _ _ _ hm
  obtain ⟨m0, rfl, hM0⟩ := open_receiver (okWide_struct Try.underlying26 (hval 0 26 v0 rfl rfl)) h0
  obtain ⟨x1, n1, m1, rfl, hM1⟩ := open_packet (okWide_struct Try.underlying48 (hval 1 48 v1 rfl rfl)) h1
  clear hA0 hval0
  refine (walk m0 x1 n1 m1 W hM0 hM1).mono fun e W' ⟨he, bel⟩ => ?_
  subst he
  exact ⟨_, rfl, _, _, _, [], _, [], hW', trodAll_mk1 (shut_bool Try.underlying4 _), (trodAll_cons_mk (Below.trod laidOut (by kernel_rfl) (of_decide_eq_true (by kernel_rfl)) k0 bel lt0) (trodAll_cons_mk (Below.trod laidOut (by kernel_rfl) (of_decide_eq_true (by kernel_rfl)) k1 bel lt1) trodAll_mk0)), rfl, bel.frame _, fun h => by cases h⟩

theorem over : Rows.linkHearsRow.holds Try.pinned (OpenSpec.ofChange Rows.linkHearsSpec) :=
  OpenClaim.holds_of_wide 7 Try.f7 rfl rfl rfl rfl rfl rfl rfl ⟨rfl, rfl, rfl, rfl, rfl⟩ rfl rfl rfl rfl rfl (by kernel_rfl) Try.func7 (by kernel_rfl)
    (of_decide_eq_true (by kernel_rfl)) (by unfold Func.isWrapper; first | (rw [if_pos (by decide +kernel)]; kernel_rfl) | (rw [if_neg (by decide +kernel)]; exact ⟨rfl, rfl⟩))
    (fun os started H enc _ => lifted os started H enc)

/-- The statement. -/
theorem proved : Rows.LinkHearsSaid := over
#print axioms proved
end Go.Proofs.Ytjmjpmnjibdhhaa.linkHears
