/-
  For every number, ways and two vertices the vertices of a graph that is made of them have one number just if each reaches the other, and it is the least of them (the law StrongMutual returns true, and its arguments read as before); no condition.
-/
import Derived.Test.YtankibadiomkkabWayOpen
import Derived.Test.YtankibadiomkkabKeepMade
import Derived.Test.YtankibadiomkkabKeepRows
import Derived.Test.YtankibadiomkkabFaceStrong
import Derived.Test.YtankibadiomkkabFaceReach
import Derived.Test.YtankibadiomkkabBoxMem
import Derived.Test.YtankibadiomkkabLeastMath
import Derived.WalkKit
import Derived.ProofKit
import Derived.OpenShut
import Derived.ShutString
import Derived.SizedLaws
import Derived.ChangeOld
import Derived.Below
import Derived.Deep.QuietTactic
import Derived.BigQuiet
import Derived.Lib.QuietBelow
namespace Go.Proofs.Ytankibadiomkkab.strongMutual
set_option maxRecDepth 100000
open Go.ChangeShapes Go.WideShapes Go.ChangeAt Go.RowKit

theorem own : ownKnob Try.prog.godebug = none := by kernel_rfl
theorem laidOut : laidOutB Try.prog = true := by kernel_rfl

set_option maxHeartbeats 4000000 in
set_option maxRecDepth 100000 in
theorem walk (n0 : Int) (v1 : Value) (es1 : List Ed) (n2 : Int) (n3 : Int) (w : World) (hI0 : -9223372036854775808 ≤ n0 ∧ n0 ≤ 9223372036854775807) (hR1 : EdR w v1 es1) (hB1 : ∀ x ∈ es1, edB x) (hL1 : es1.length * 24 ≤ 140737488351232) (hI2 : -9223372036854775808 ≤ n2 ∧ n2 ≤ 9223372036854775807) (hI3 : -9223372036854775808 ≤ n3 ∧ n3 ≤ 9223372036854775807) :
    Calls Try.prog 3 #[.int .i64 n0, v1, .int .i64 n2, .int .i64 n3] w fun e w' => e = .returned (.bool true) ∧ Below w.heap.size w w' := by
  have _u := hI0
  clear _u
  have _u := hR1
  clear _u
  have _u := hB1
  clear _u
  have _u := hL1
  clear _u
  have _u := hI2
  clear _u
  have _u := hI3
  clear _u
  have HR : Hid (EdR w v1 es1) := hR1
  have HBW : Hid (∀ x ∈ es1, edB x) := hB1
  have hpb := pickF_bd n0 8 (by omega)
  have HM : Hid (∀ X, EdR X v1 es1 → Calls Try.prog 5 #[.int .i64 n0, v1, .int .i64 8] X fun e w' => ∃ v', e = .returned (.agg #[.int .i64 (1 + pickF n0 8), v']) ∧ w'.ownsRow X.heap.size 37 3 v' (madeL (1 + pickF n0 8) es1).length ((madeL (1 + pickF n0 8) es1).flatMap encE) ∧ Below X.heap.size X w') := fun X hX => made_any n0 8 _ es1 X hX HBW.out hI0 (by omega) (by omega)
  have F0 : Hid (faultE (1 + pickF n0 8) (madeL (1 + pickF n0 8) es1) = 0) := made_right (by omega) (by omega)
  have hEl := made_len (1 + pickF n0 8) es1
  have hn0 : 0 < 1 + pickF n0 8 := by omega
  have hn8 : 1 + pickF n0 8 ≤ 8 := by omega
  clear hpb hB1 hL1 hI0
  generalize madeL (1 + pickF n0 8) es1 = E at *
  generalize 1 + pickF n0 8 = N at *
  obtain ⟨m, rfl⟩ : ∃ m : Nat, N = m := ⟨N.toNat, by omega⟩
  have hm0 : 0 < m := by omega
  have HG : Hid (InG m E) := in_fault F0.out
  have CP : Hid (∀ X, Calls Try.prog 7 #[.int .i64 n2, .int .i64 m] X fun e w' => e = .returned (.int .i64 (pickF n2 m)) ∧ w' = X) := fun X => picked_any n2 m X hI2.1 hI2.2 hn0 (by omega)
  have CP2 : Hid (∀ X, Calls Try.prog 7 #[.int .i64 n3, .int .i64 m] X fun e w' => e = .returned (.int .i64 (pickF n3 m)) ∧ w' = X) := fun X => picked_any n3 m X hI3.1 hI3.2 hn0 (by omega)
  have CS : Hid (∀ X v, EdR X v E → Calls Try.prog 6 #[.agg #[.int .i64 m, v]] X fun e w' => ∃ v', e = .returned (.tuple #[v', .int .i64 0]) ∧ InR w' v' (strongF m E) ∧ Below X.heap.size X w') := fun X v hX => by
    have h1 := pStrong_any v E m X hX
    rw [F0.out, Int.toNat_natCast] at h1
    exact h1.mono (fun e w' ⟨v', h2, h3, h4⟩ => ⟨v', h2, RowK.own encI_len h3, h4⟩)
  have CR : Hid (∀ X v (k : Nat), k < m → EdR X v E → Calls Try.prog 8 #[.agg #[.int .i64 m, v], .int .i64 k] X fun e w' => ∃ v', e = .returned (.tuple #[v', .int .i64 0]) ∧ BlR w' v' (reachF m E k) ∧ Below X.heap.size X w') := fun X v k hk hX => by
    have h1 := pReach_any v E m k X hX
    rw [errV_ok F0.out ⟨by omega, by omega⟩, Int.toNat_natCast] at h1
    exact h1.mono (fun e w' ⟨v', h2, h3, h4⟩ => ⟨v', h2, BlR.ownd h3, h4⟩)
  have hpv := pickF_bd n2 m hn0
  have hpw := pickF_bd n3 m hn0
  generalize pickF n2 m = pv0 at *
  generalize pickF n3 m = pw0 at *
  obtain ⟨pu, rfl⟩ : ∃ pu : Nat, pv0 = pu := ⟨pv0.toNat, by omega⟩
  obtain ⟨pv, rfl⟩ : ∃ pv : Nat, pw0 = pv := ⟨pw0.toNat, by omega⟩
  have hpu : pu < m := by omega
  have hpm : pv < m := by omega
  have SO := strong_ok HG.out
  have hsy : ∀ u v, Mut E u v → Mut E v u := fun _ _ h => h.symm
  have htr : ∀ u x v, Mut E u x → Mut E x v → Mut E u v := fun _ _ _ h h2 => h.trans h2
  obtain ⟨p, hp⟩ : ∃ p : Nat, atD (strongF m E) (pu : Int) = p := ⟨(atD (strongF m E) (pu : Int)).toNat, by have := (SO.2 pu ⟨by omega, by omega⟩).1; omega⟩
  obtain ⟨q, hq⟩ : ∃ q : Nat, atD (strongF m E) (pv : Int) = q := ⟨(atD (strongF m E) (pv : Int)).toNat, by have := (SO.2 pv ⟨by omega, by omega⟩).1; omega⟩
  have hpn : p < m := by have := (SO.2 pu ⟨by omega, by omega⟩).1; omega
  have hple : (p : Int) ≤ (pu : Int) := by
    have := least_le_self (fun v => ⟨Rch.refl _ _, Rch.refl _ _⟩) SO (v := (pu : Int)) ⟨by omega, by omega⟩
    omega
  have hpp : atD (strongF m E) (p : Int) = p := by
    have := least_again hsy htr SO (v := (pu : Int)) ⟨by omega, by omega⟩
    rwa [hp] at this
  have hmu : (p : Int) = (q : Int) ↔ (atB (reachF m E pu) (pv : Int) = true ∧ atB (reachF m E pv) (pu : Int) = true) := by
    rw [← hp, ← hq, least_same hsy htr SO ⟨by omega, by omega⟩ ⟨by omega, by omega⟩, reach_at HG.out ⟨by omega, by omega⟩ ⟨by omega, by omega⟩, reach_at HG.out ⟨by omega, by omega⟩ ⟨by omega, by omega⟩]
    exact Iff.rfl
  have HMU : Hid ((p : Int) = (q : Int) ↔ (atB (reachF m E pu) (pv : Int) = true ∧ atB (reachF m E pv) (pu : Int) = true)) := hmu
  have HPU : Hid (atD (strongF m E) (pu : Int) = p) := hp
  have HPV : Hid (atD (strongF m E) (pv : Int) = q) := hq
  have HPP : Hid (atD (strongF m E) (p : Int) = p) := hpp
  have HLS : Hid ((strongF m E).length = m) := SO.1
  have HLA : Hid ((reachF m E pu).length = m) := reach_len HG.out ⟨by omega, by omega⟩
  have HLV : Hid ((reachF m E pv).length = m) := reach_len HG.out ⟨by omega, by omega⟩
  have dmm : ((m : Int) != (m : Int)) = false := by simp
  clear F0 hpv hpw SO hsy htr hp hq hpp hmu
  obtain ⟨a, cap, rfl⟩ := hR1.shape
  clear hR1 hI2 hI3
  go_enter Try.func3, Try.ntmps3
  go_wp2_with fail
  refine (HM.out _ HR.out).mono ?_
  rintro e w1 ⟨va, rfl, hown1, hb1⟩
  have R1 : EdR w1 va E := RowK.own encE_len hown1
  obtain ⟨aa, ac, rfl, hac, ham, _, _⟩ := R1
  unfold maxLen at ham
  have RE : Hid (EdR w1 (.slice aa E.length ac) E) := RowK.own encE_len hown1
  have B1 : Hid (Below w.heap.size w w1) := hb1
  clear hown1 hb1 HM
  go_upto_region 2 with fail
  have N1 : BX 25 (w1.alloc (.cells #[.int .i64 m, .slice aa E.length ac] 25)) w1.heap.size #[.int .i64 m, .slice aa E.length ac] := BX.new _ _ _
  have A1 : Below w1.heap.size w1 (w1.alloc (.cells #[.int .i64 m, .slice aa E.length ac] 25)) := below_alloc _ _
  generalize w1.alloc (.cells #[.int .i64 m, .slice aa E.length ac] 25) = W1 at *
  have hl1 := N1.lt
  have HK : Hid (∀ X, Below W1.heap.size W1 X → BX 25 X w1.heap.size #[.int .i64 m, .slice aa E.length ac] ∧ Below w.heap.size w X ∧ EdR X (.slice aa E.length ac) E) := fun X hX => ⟨N1.below hX hl1, B1.out.trans ((A1.trans (hX.mono A1.size)).mono B1.out.size), RE.out.below (A1.trans (hX.mono A1.size)) (Nat.le_refl _)⟩
  generalize w1.heap.size = gq at *
  obtain ⟨q0, q1, _⟩ := N1.all2
  have RW : Hid (EdR W1 (.slice aa E.length ac) E) := (HK.out _ (Below.refl _ _)).2.2
  clear N1 A1
  go_wp2_with fail
  refine (CS.out _ _ RW.out).mono ?_
  rintro e W2 ⟨v2, rfl, hr2, hb2⟩
  have A2 : Hid (Below W1.heap.size W1 W2) := hb2
  obtain ⟨sb, so, sc, rfl, hsc, hsm, lts, hcs⟩ := hr2.row HLS.out hm0
  have HCS : Hid (∀ X, Below W2.heap.size W2 X → ∀ i : Nat, i < m → X.cell? ⟨sb, so + i, none⟩ = some (.int .i64 (atD (strongF m E) (i : Int)))) := fun X hX i hi => (hX.cell (p := ⟨sb, so + i, none⟩) lts).trans (hcs i hi)
  clear hr2 hb2 hcs q0 q1
  obtain ⟨Q2, _, E2⟩ := HK.out _ A2.out
  have S2 : Hid (EdR W2 (.slice aa E.length ac) E) := E2
  obtain ⟨q0, q1, _⟩ := Q2.all2
  clear Q2 E2
  go_wp2_with fail
  refine (CP.out _).mono ?_
  rintro e w2 ⟨rfl, hw⟩
  replace hw := hw.symm
  subst hw
  go_wp2_with fail
  refine (CP2.out _).mono ?_
  rintro e w2 ⟨rfl, hw⟩
  replace hw := hw.symm
  subst hw
  go_wp2_with fail
  refine (CR.out _ _ pu hpu S2.out).mono ?_
  rintro e W3 ⟨v3, rfl, hr3, hb3⟩
  have A3 : Hid (Below W2.heap.size W2 W3) := hb3
  obtain ⟨ab, ao, acp, rfl, hac3, ham3, lta, hca⟩ := hr3.row HLA.out hm0
  have HCA : Hid (∀ X, Below W3.heap.size W3 X → X.cell? ⟨ab, ao + pv, none⟩ = some (.bool (atB (reachF m E pu) (pv : Int)))) := fun X hX => (hX.cell (p := ⟨ab, ao + pv, none⟩) lta).trans (hca pv hpm)
  clear hr3 hb3 hca q0 q1
  obtain ⟨Q3, _, E3⟩ := HK.out _ (A2.out.trans (A3.out.mono A2.out.size))
  have S3 : Hid (EdR W3 (.slice aa E.length ac) E) := E3
  obtain ⟨q0, q1, _⟩ := Q3.all2
  clear Q3 E3
  go_wp2_with fail
  refine (CR.out _ _ pv hpm S3.out).mono ?_
  rintro e W4 ⟨v4, rfl, hr4, hb4⟩
  have A4 : Hid (Below W3.heap.size W3 W4) := hb4
  obtain ⟨bb, bo, bc, rfl, hbc, hbm, ltb, hcb⟩ := hr4.row HLV.out hm0
  have cb := hcb pu hpu
  have ca := HCA.out _ hb4
  have AW : Hid (Below W2.heap.size W2 W4) := A3.out.trans (hb4.mono A3.out.size)
  have cu := HCS.out _ AW.out pu hpu
  have cv := HCS.out _ AW.out pv hpm
  have cp := HCS.out _ AW.out p hpn
  rw [HPU.out] at cu
  rw [HPV.out] at cv
  rw [HPP.out] at cp
  clear hr4 hb4 hcb q0 q1
  obtain ⟨Q4, b4, _⟩ := HK.out _ (A2.out.trans (AW.out.mono A2.out.size))
  have B4 : Hid (Below w.heap.size w W4) := b4
  obtain ⟨q0, q1, _⟩ := Q4.all2
  clear Q4 b4
  have u0 : (0 : Int) ≤ (pu : Int) := by omega
  have u1 : (pu : Int) < (m : Int) := by omega
  have x0 : (0 : Int) ≤ (pv : Int) := by omega
  have x1 : (pv : Int) < (m : Int) := by omega
  have y0 : (p : Int) ≥ 0 := by omega
  have y0' : (0 : Int) ≤ (p : Int) := by omega
  have y1 : (p : Int) < (m : Int) := by omega
  have ppe : ((p : Int) == (p : Int)) = true := by simp
  have HM2 := HMU.out
  generalize atB (reachF m E pu) (pv : Int) = A at *
  generalize atB (reachF m E pv) (pu : Int) = B at *
  clear CP CP2 CS CR HK HCS HCA HMU HPU HPV HPP HLS HLA HLV
  cases A
  · have e1 : ((p : Int) == (q : Int)) = false := by simp only [beq_eq_false_iff_ne]; exact fun h => by have := HM2.1 h; simp at this
    clear HM2
    go_wp2_with fail
    go_quiet (fail)
    go_wp2_with fail
    go_ret
    exact ⟨rfl, below_drewN B4.out _⟩
  · cases B
    · have e1 : ((p : Int) == (q : Int)) = false := by simp only [beq_eq_false_iff_ne]; exact fun h => by have := HM2.1 h; simp at this
      clear HM2
      go_wp2_with fail
      go_quiet (fail)
      go_wp2_with fail
      go_ret
      exact ⟨rfl, below_drewN B4.out _⟩
    · obtain rfl : p = q := by have := HM2.2 ⟨rfl, rfl⟩; omega
      clear HM2
      go_wp2_with fail
      go_quiet (fail)
      go_wp2_with fail
      go_ret
      exact ⟨rfl, below_drewN B4.out _⟩

set_option maxHeartbeats 400000 in
set_option maxRecDepth 100000 in
theorem lifted (os : Os) (started : os.Started) (H : Type) (enc : TypeId × Value → H) :
    ReturnsInHanded {} Try.checked os 3 .any (Rows.strongMutualSpec.pre6 enc Try.prog Try.f3 Rows.strongMutualRow.domain false) (Rows.strongMutualSpec.post enc Try.prog Try.f3 false true false false) := by
  refine returnsInHanded_of_change_sized (C := Try.checked) own started (by kernel_rfl) Try.func3
    (ChangeSpec.witness6 (enc := enc) (C := Try.checked) false ⟨#[], #[.int .i64 0, .slice none 0 0, .int .i64 0, .int .i64 0], []⟩ 8 (by kernel_rfl) (by kernel_rfl) (by kernel_rfl) (by kernel_rfl)) ?_
  intro W base args ds gs before hval0 hW _ hsz0 _
  have hval : ∀ (j : Nat) t v, Try.f3.params[j]? = some t → args[j]? = some v → Value.okWide Try.prog W .any base t v := hval0
  have hW' := hW
  obtain ⟨p, q, hA0, hV, rfl, hfz, hnd⟩ := hW
  have hA : DataW.TrodAll enc Try.prog W 0 (fun _ => true) true Try.f3.params.toList args.toList ds p := hA0
  have hsz : (DataW.weightsEach Try.prog (Try.f3.params.toList ++ Rows.strongMutualSpec.plain.varTypes Try.prog) (ds ++ gs)).all (fun x => decide (x ≤ reachBytes)) = true := hsz0
  rw [Try.params3] at hA hval hsz
  obtain ⟨v0, vs0, d0, ds0, p0, q0, hargs, rfl, rfl, h0, r0⟩ := trodAll_cons hA
  obtain ⟨v1, vs1, d1, ds1, p1, q1, rfl, rfl, rfl, h1, r1⟩ := trodAll_cons r0
  obtain ⟨v2, vs2, d2, ds2, p2, q2, rfl, rfl, rfl, h2, r2⟩ := trodAll_cons r1
  obtain ⟨v3, vs3, d3, ds3, p3, q3, rfl, rfl, rfl, h3, r3⟩ := trodAll_cons r2
  obtain ⟨rfl, rfl, rfl⟩ := trodAll_nil r3
  obtain rfl : args = #[v0, v1, v2, v3] := by cases args; simp_all
  obtain ⟨rfl, rfl⟩ := trodVars_none hV
  have k0 := h0
  have lt0 : ∀ x ∈ p0, x.block < W.heap.size := by obtain ⟨m, hm⟩ := k0; exact DataW.trod_lt m _ _ _ hm
  have k1 := h1
  have lt1 : ∀ x ∈ p1, x.block < W.heap.size := by obtain ⟨m, hm⟩ := k1; exact DataW.trod_lt m _ _ _ hm
  have hw1 : ∀ m ∈ d1.weights Try.prog 22, m ≤ reachBytes := fun m hm => by simpa using List.all_eq_true.1 hsz _ (DataW.weights_mem_each (j := 1) (t := 22) rfl rfl m hm)
  have k2 := h2
  have lt2 : ∀ x ∈ p2, x.block < W.heap.size := by obtain ⟨m, hm⟩ := k2; exact DataW.trod_lt m _ _ _ hm
  have k3 := h3
  have lt3 : ∀ x ∈ p3, x.block < W.heap.size := by obtain ⟨m, hm⟩ := k3; exact DataW.trod_lt m _ _ _ hm
  obtain ⟨n0, rfl, _, _, wf0⟩ := open_int Try.underlying3 (hval 0 3 v0 rfl rfl) h0
  have hI0 := bounds_i64 wf0
  obtain ⟨es1, hR1, hB1, hL1⟩ := open_ways (okWide_slice Try.underlying22 (hval 1 22 v1 rfl rfl)) h1 hw1
  obtain ⟨n2, rfl, _, _, wf2⟩ := open_int Try.underlying3 (hval 2 3 v2 rfl rfl) h2
  have hI2 := bounds_i64 wf2
  obtain ⟨n3, rfl, _, _, wf3⟩ := open_int Try.underlying3 (hval 3 3 v3 rfl rfl) h3
  have hI3 := bounds_i64 wf3
  clear hA0 hval0
  refine (walk n0 v1 es1 n2 n3 W hI0 hR1 hB1 hL1 hI2 hI3).mono fun e W' ⟨he, bel⟩ => ?_
  subst he
  exact ⟨_, rfl, _, _, _, [], _, [], hW', trodAll_mk1 (shut_bool Try.underlying4 _), (trodAll_cons_mk (Below.trod laidOut (by kernel_rfl) (of_decide_eq_true (by kernel_rfl)) k0 bel lt0) (trodAll_cons_mk (Below.trod laidOut (by kernel_rfl) (of_decide_eq_true (by kernel_rfl)) k1 bel lt1) (trodAll_cons_mk (Below.trod laidOut (by kernel_rfl) (of_decide_eq_true (by kernel_rfl)) k2 bel lt2) (trodAll_cons_mk (Below.trod laidOut (by kernel_rfl) (of_decide_eq_true (by kernel_rfl)) k3 bel lt3) trodAll_mk0)))), rfl, bel.frame _, fun h => by cases h⟩

theorem over : Rows.strongMutualRow.holds Try.pinned (OpenSpec.ofChange Rows.strongMutualSpec) :=
  OpenClaim.holds_of_wide 3 Try.f3 rfl rfl rfl rfl rfl rfl rfl ⟨rfl, rfl, rfl, rfl, rfl⟩ rfl rfl rfl rfl rfl (by kernel_rfl) Try.func3 (by kernel_rfl)
    (of_decide_eq_true (by kernel_rfl)) (by unfold Func.isWrapper; first | (rw [if_pos (by decide +kernel)]; kernel_rfl) | (rw [if_neg (by decide +kernel)]; exact ⟨rfl, rfl⟩))
    (fun os started H enc _ => lifted os started H enc)

/-- The statement. -/
theorem proved : Rows.StrongMutualSaid := over
#print axioms proved
end Go.Proofs.Ytankibadiomkkab.strongMutual
