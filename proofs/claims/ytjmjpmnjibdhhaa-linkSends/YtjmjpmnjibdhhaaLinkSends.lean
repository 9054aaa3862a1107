/-
  For every sender and piece of mail link.Send answers what P10.3 says, and changes neither (the law LinkSends returns true, and its arguments read as before); no condition.
-/
import Derived.Test.YtjmjpmnjibdhhaaLinkSend
import Derived.Test.YtjmjpmnjibdhhaaRefSent
import Derived.Test.YtjmjpmnjibdhhaaLinkSame
import Derived.Test.YtjmjpmnjibdhhaaLinkArgs
import Derived.WalkKit
import Derived.ProofKit
import Derived.OpenShut
import Derived.ShutString
import Derived.SizedLaws
import Derived.ChangeOld
import Derived.Below
namespace Go.Proofs.Ytjmjpmnjibdhhaa.linkSends
set_option maxRecDepth 100000
open Go.ChangeShapes Go.WideShapes Go.ChangeAt Go.RowKit

theorem own : ownKnob Try.prog.godebug = none := by kernel_rfl
theorem laidOut : laidOutB Try.prog = true := by kernel_rfl

set_option maxHeartbeats 1000000 in
set_option maxRecDepth 100000 in
theorem walk (e0 b0 : Int) (v0 : Value) (l0 : List Ml) (m1 : Ml) (w : World) (hN0 : i64B e0 ∧ i64B b0) (hR0 : MlR w v0 l0) (hB0 : ∀ x ∈ l0, mlB x) (hL0 : l0.length * 16 ≤ 140737488351232) (hM1 : mlB m1) :
    Calls Try.prog 4 #[.agg #[.int .i64 e0, .int .i64 b0, v0], .agg #[.int .i64 m1.1, .int .i64 m1.2]] w fun e w' => e = .returned (.bool true) ∧ Below w.heap.size w w' := by
  have _u := hN0
  clear _u
  have _u := hR0
  clear _u
  have _u := hB0
  clear _u
  have _u := hL0
  clear _u
  have _u := hM1
  clear _u
  have HR : Hid (MlR w v0 l0) := hR0
  obtain ⟨a, cap, rfl⟩ := hR0.shape
  have HL : Hid (l0.length * 16 ≤ 140737488351232) := hL0
  have C1 : Hid (∀ X v, MlR X v l0 → Calls Try.prog 13 #[.agg #[.int .i64 e0, .int .i64 b0, v], .agg #[.int .i64 m1.1, .int .i64 m1.2]] X (SndP X (sendE e0 b0 l0.length) e0 (b0) (l0 ++ [m1]))) := fun X v hX => send_any e0 b0 m1 v l0 X hX HL.out
  have C2 : Hid (∀ X v, MlR X v l0 → Calls Try.prog 14 #[.agg #[.int .i64 e0, .int .i64 b0, v], .agg #[.int .i64 m1.1, .int .i64 m1.2]] X (SndP X (sendE e0 b0 l0.length) e0 (b0) (l0 ++ [m1]))) := fun X v hX => refSent_any e0 b0 m1 v l0 X hX HL.out
  unfold SndP at C1 C2
  generalize okL (sendE e0 b0 l0.length) (l0 ++ [m1]) = L at *
  generalize okN (sendE e0 b0 l0.length) e0 = ee at *
  generalize okN (sendE e0 b0 l0.length) (b0) = bb at *
  generalize sendE e0 b0 l0.length = ff at *
  have hff : (ff == ff) = true := by simp
  clear hR0 hB0
  go_enter Try.func4, Try.ntmps4
  go_upto_region 1 with fail
  obtain ⟨Q0, P0, B0, s1, s2⟩ := boxes2 w #[.int .i64 e0, .int .i64 b0, .slice a l0.length cap] #[.int .i64 m1.1, .int .i64 m1.2] 24 33 _ rfl
  generalize (w.alloc (.cells #[.int .i64 e0, .int .i64 b0, .slice a l0.length cap] 24)).alloc (.cells #[.int .i64 m1.1, .int .i64 m1.2] 33) = W0 at *
  have BH : Hid (Below w.heap.size w W0) := B0
  have SX : Hid (BX 24 W0 w.heap.size #[.int .i64 e0, .int .i64 b0, .slice a l0.length cap]) := Q0
  have MX : Hid (BX 33 W0 (w.heap.size + 1) #[.int .i64 m1.1, .int .i64 m1.2]) := P0
  obtain ⟨q0, q1, q2, _⟩ := Q0.all3
  clear Q0 P0 B0
  go_wp2_with fail
  refine (senders_any e0 b0 _ l0 _ (HR.out.below BH.out (Nat.le_refl _)) HL.out).mono ?_
  rintro E w1 ⟨v1, rfl, ho1, hb1⟩
  have B1 : Hid (Below W0.heap.size W0 w1) := hb1
  have hs1 := hb1.size
  have O1 : Hid (w1.ownsRow W0.heap.size 33 2 v1 l0.length (l0.flatMap encM)) := ho1
  obtain ⟨ya, yc, rfl⟩ := (MlR.ownd ho1).shape
  clear ho1 hb1 q0 q1 q2
  go_upto_region 2 with fail
  have N1 : BX 24 (w1.alloc (.cells #[.int .i64 e0, .int .i64 b0, .slice ya l0.length yc] 24)) w1.heap.size #[.int .i64 e0, .int .i64 b0, .slice ya l0.length yc] := BX.new _ _ _
  have b2 : Below W0.heap.size W0 (w1.alloc (.cells #[.int .i64 e0, .int .i64 b0, .slice ya l0.length yc] 24)) := B1.out.alloc hs1 _
  have o2 : (w1.alloc (.cells #[.int .i64 e0, .int .i64 b0, .slice ya l0.length yc] 24)).ownsRow W0.heap.size 33 2 (.slice ya l0.length yc) l0.length (l0.flatMap encM) := O1.out.alloc _
  generalize w1.alloc (.cells #[.int .i64 e0, .int .i64 b0, .slice ya l0.length yc] 24) = W2 at *
  have CX : Hid (BX 24 W2 w1.heap.size #[.int .i64 e0, .int .i64 b0, .slice ya l0.length yc]) := N1
  have hs2 := N1.lt
  have B2 : Hid (Below W0.heap.size W0 W2) := b2
  have R2 : Hid (MlR W2 (.slice ya l0.length yc) l0) := MlR.ownd o2
  obtain ⟨q0, q1, q2, _⟩ := N1.all3
  obtain ⟨m0, m1', _⟩ := (MX.out.below b2 (by omega)).all2
  clear N1 b2 o2 O1
  go_wp2_with fail
  refine (C1.out _ _ R2.out).mono ?_
  rintro E w3 ⟨v3, rfl, ho3, hb3⟩
  have B3 : Hid (Below W2.heap.size W2 w3) := hb3
  have hs3 := hb3.size
  have O3 : Hid (w3.ownsRow W2.heap.size 33 2 v3 L.length (L.flatMap encM)) := ho3
  obtain ⟨za, zc, rfl⟩ := (MlR.ownd ho3).shape
  clear ho3 hb3 q0 q1 q2 m0 m1'
  go_upto_region 3 with fail
  have N1 : BX 24 (w3.alloc (.cells #[.int .i64 ee, .int .i64 bb, .slice za L.length zc] 24)) w3.heap.size #[.int .i64 ee, .int .i64 bb, .slice za L.length zc] := BX.new _ _ _
  have b4 : Below W2.heap.size W2 (w3.alloc (.cells #[.int .i64 ee, .int .i64 bb, .slice za L.length zc] 24)) := B3.out.alloc hs3 _
  have o4 : (w3.alloc (.cells #[.int .i64 ee, .int .i64 bb, .slice za L.length zc] 24)).ownsRow W2.heap.size 33 2 (.slice za L.length zc) L.length (L.flatMap encM) := O3.out.alloc _
  generalize w3.alloc (.cells #[.int .i64 ee, .int .i64 bb, .slice za L.length zc] 24) = W4 at *
  have AX : Hid (BX 24 W4 w3.heap.size #[.int .i64 ee, .int .i64 bb, .slice za L.length zc]) := N1
  have hs4 := N1.lt
  have B4 : Hid (Below W2.heap.size W2 W4) := b4
  have R4 : Hid (MlR W4 (.slice za L.length zc) L) := MlR.ownd o4
  have B04 : Hid (Below W0.heap.size W0 W4) := B2.out.trans (b4.mono (by omega))
  obtain ⟨q0, q1, q2, _⟩ := (SX.out.below B04.out (by omega)).all3
  obtain ⟨m0, m1', _⟩ := (MX.out.below B04.out (by omega)).all2
  clear N1 b4 o4 O3
  go_wp2_with fail
  refine (C2.out _ _ (HR.out.below (BH.out.trans (B04.out.mono (by omega))) (Nat.le_refl _))).mono ?_
  rintro E w5 ⟨v5, rfl, ho5, hb5⟩
  have B5 : Hid (Below W4.heap.size W4 w5) := hb5
  have hs5 := hb5.size
  have O5 : Hid (w5.ownsRow W4.heap.size 33 2 v5 L.length (L.flatMap encM)) := ho5
  obtain ⟨xa, xc, rfl⟩ := (MlR.ownd ho5).shape
  clear ho5 hb5 q0 q1 q2 m0 m1'
  go_upto_region 4 with fail
  have N1 : BX 24 (w5.alloc (.cells #[.int .i64 ee, .int .i64 bb, .slice xa L.length xc] 24)) w5.heap.size #[.int .i64 ee, .int .i64 bb, .slice xa L.length xc] := BX.new _ _ _
  have b6 : Below W4.heap.size W4 (w5.alloc (.cells #[.int .i64 ee, .int .i64 bb, .slice xa L.length xc] 24)) := B5.out.alloc hs5 _
  have o6 : (w5.alloc (.cells #[.int .i64 ee, .int .i64 bb, .slice xa L.length xc] 24)).ownsRow W4.heap.size 33 2 (.slice xa L.length xc) L.length (L.flatMap encM) := O5.out.alloc _
  generalize w5.alloc (.cells #[.int .i64 ee, .int .i64 bb, .slice xa L.length xc] 24) = W6 at *
  have B6 : Hid (Below W4.heap.size W4 W6) := b6
  have R6 : Hid (MlR W6 (.slice xa L.length xc) L) := MlR.ownd o6
  have hs6 := N1.lt
  have B26 : Hid (Below W2.heap.size W2 W6) := B4.out.trans (b6.mono (by omega))
  have B06 : Hid (Below W0.heap.size W0 W6) := B2.out.trans (B26.out.mono (by omega))
  have S6 : Hid (BX 24 W6 w.heap.size #[.int .i64 e0, .int .i64 b0, .slice a l0.length cap]) := SX.out.below B06.out (by omega)
  have C6 : Hid (BX 24 W6 w1.heap.size #[.int .i64 e0, .int .i64 b0, .slice ya l0.length yc]) := CX.out.below B26.out (by omega)
  obtain ⟨a0, a1, a2, _⟩ := (AX.out.below b6 (by omega)).all3
  obtain ⟨d0, d1, d2, _⟩ := N1.all3
  clear N1 b6 o6 O5
  go_wp2_with fail
  refine (sameSender_yes ee bb _ _ L _ (R4.out.below B6.out (Nat.le_refl _)) R6.out).mono ?_
  rintro E w7 ⟨rfl, hb7⟩
  have B7 : Hid (Below W6.heap.size W6 w7) := hb7
  have hs7 := hb7.size
  obtain ⟨a0, a1, a2, _⟩ := (S6.out.below hb7 (by omega)).all3
  obtain ⟨d0, d1, d2, _⟩ := (C6.out.below hb7 (by omega)).all3
  have B07 : Hid (Below w.heap.size w w7) := BH.out.trans ((B06.out.trans (hb7.mono (by omega))).mono (by omega))
  clear hb7
  go_wp2_with fail
  refine (sameSender_yes e0 b0 _ _ l0 _ ((R2.out.below B26.out (Nat.le_refl _)).below B7.out (Nat.le_refl _)) (HR.out.below B07.out (Nat.le_refl _))).mono ?_
  rintro E w8 ⟨rfl, hb8⟩
  have B8 : Hid (Below w.heap.size w w8) := B07.out.trans (hb8.mono B07.out.size)
  clear hb8 a0 a1 a2 d0 d1 d2
  go_wp2_with fail
  go_ret
  exact ⟨rfl, B8.out⟩

set_option maxHeartbeats 400000 in
set_option maxRecDepth 100000 in
theorem lifted (os : Os) (started : os.Started) (H : Type) (enc : TypeId × Value → H) :
    ReturnsInHanded {} Try.checked os 4 .any (Rows.linkSendsSpec.pre6 enc Try.prog Try.f4 Rows.linkSendsRow.domain false) (Rows.linkSendsSpec.post enc Try.prog Try.f4 false true false false) := by
  refine returnsInHanded_of_change_sized (C := Try.checked) own started (by kernel_rfl) Try.func4
    (ChangeSpec.witness6 (enc := enc) (C := Try.checked) false ⟨#[], #[.agg #[.int .i64 0, .int .i64 0, .slice none 0 0], .agg #[.int .i64 0, .int .i64 0]], []⟩ 8 (by kernel_rfl) (by kernel_rfl) (by kernel_rfl) (by kernel_rfl)) ?_
  intro W base args ds gs before hval0 hW _ hsz0 _
  have hval : ∀ (j : Nat) t v, Try.f4.params[j]? = some t → args[j]? = some v → Value.okWide Try.prog W .any base t v := hval0
  have hW' := hW
  obtain ⟨p, q, hA0, hV, rfl, hfz, hnd⟩ := hW
  have hA : DataW.TrodAll enc Try.prog W 0 (fun _ => true) true Try.f4.params.toList args.toList ds p := hA0
  have hsz : (DataW.weightsEach Try.prog (Try.f4.params.toList ++ Rows.linkSendsSpec.plain.varTypes Try.prog) (ds ++ gs)).all (fun x => decide (x ≤ reachBytes)) = true := hsz0
  rw [Try.params4] at hA hval hsz
  obtain ⟨v0, vs0, d0, ds0, p0, q0, hargs, rfl, rfl, h0, r0⟩ := trodAll_cons hA
  obtain ⟨v1, vs1, d1, ds1, p1, q1, rfl, rfl, rfl, h1, r1⟩ := trodAll_cons r0
  obtain ⟨rfl, rfl, rfl⟩ := trodAll_nil r1
  obtain rfl : args = #[v0, v1] := by cases args; simp_all
  obtain ⟨rfl, rfl⟩ := trodVars_none hV
  have k0 := h0
  have lt0 : ∀ x ∈ p0, x.block < W.heap.size := by obtain ⟨m, hm⟩ := k0; exact DataW.trod_lt m _ _ _ hm
  have hw0 : ∀ m ∈ d0.weights Try.prog 24, m ≤ reachBytes := fun m hm => by simpa using List.all_eq_true.1 hsz _ (DataW.weights_mem_each (j := 0) (t := 24) rfl rfl m hm)
  have k1 := h1
  have lt1 : ∀ x ∈ p1, x.block < W.heap.size := by obtain ⟨m, hm⟩ := k1; exact DataW.trod_lt m _ _ _ hm
  obtain ⟨e0, b0, u0, l0, rfl, hN0, hR0, hB0, hL0⟩ := open_sender (okWide_struct Try.underlying24 (hval 0 24 v0 rfl rfl)) h0 hw0
  obtain ⟨m1, rfl, hM1⟩ := open_mailL (okWide_struct Try.underlying33 (hval 1 33 v1 rfl rfl)) h1
  clear hA0 hval0
  refine (walk e0 b0 u0 l0 m1 W hN0 hR0 hB0 hL0 hM1).mono fun e W' ⟨he, bel⟩ => ?_
  subst he
  exact ⟨_, rfl, _, _, _, [], _, [], hW', trodAll_mk1 (shut_bool Try.underlying4 _), (trodAll_cons_mk (Below.trod laidOut (by kernel_rfl) (of_decide_eq_true (by kernel_rfl)) k0 bel lt0) (trodAll_cons_mk (Below.trod laidOut (by kernel_rfl) (of_decide_eq_true (by kernel_rfl)) k1 bel lt1) trodAll_mk0)), rfl, bel.frame _, fun h => by cases h⟩

theorem over : Rows.linkSendsRow.holds Try.pinned (OpenSpec.ofChange Rows.linkSendsSpec) :=
  OpenClaim.holds_of_wide 4 Try.f4 rfl rfl rfl rfl rfl rfl rfl ⟨rfl, rfl, rfl, rfl, rfl⟩ rfl rfl rfl rfl rfl (by kernel_rfl) Try.func4 (by kernel_rfl)
    (of_decide_eq_true (by kernel_rfl)) (by unfold Func.isWrapper; first | (rw [if_pos (by decide +kernel)]; kernel_rfl) | (rw [if_neg (by decide +kernel)]; exact ⟨rfl, rfl⟩))
    (fun os started H enc _ => lifted os started H enc)

/-- The statement. -/
theorem proved : Rows.LinkSendsSaid := over
#print axioms proved
end Go.Proofs.Ytjmjpmnjibdhhaa.linkSends
