/-
  For every number, ways and source the rounds of Dist tell of a graph that is made of them the distances that paths tell, within one round more than there are vertices (the law RoundsDist returns true, and its arguments read as before); no condition.
-/
import Derived.Test.YtbmkgnlfccigpaaWayOpen
import Derived.Test.YtbmkgnlfccigpaaRoundsDistPartA
import Derived.Test.YtbmkgnlfccigpaaRoundsDistPartB
import Derived.WalkKit
import Derived.ProofKit
import Derived.OpenShut
import Derived.ShutString
import Derived.SizedLaws
import Derived.ChangeOld
import Derived.Below
namespace Go.Proofs.Ytbmkgnlfccigpaa.roundsDist
set_option maxRecDepth 100000
open Go.ChangeShapes Go.WideShapes Go.ChangeAt Go.RowKit

theorem own : ownKnob Try.prog.godebug = none := by kernel_rfl
theorem laidOut : laidOutB Try.prog = true := by kernel_rfl

set_option maxHeartbeats 4000000 in
set_option maxRecDepth 100000 in
theorem walk (n0 : Int) (v1 : Value) (es1 : List Ed) (n2 : Int) (w : World) (hI0 : -9223372036854775808 ≤ n0 ∧ n0 ≤ 9223372036854775807) (hR1 : EdR w v1 es1) (hB1 : ∀ x ∈ es1, edB x) (hL1 : es1.length * 24 ≤ 140737488351232) (hI2 : -9223372036854775808 ≤ n2 ∧ n2 ≤ 9223372036854775807) :
    Calls Try.prog 5 #[.int .i64 n0, v1, .int .i64 n2] w fun e w' => e = .returned (.bool true) ∧ Below w.heap.size w w' := by
  have _u := hI0
  clear _u
  have _u := hR1
  clear _u
  have _u := hB1
  clear _u
  have _u := hL1
  clear _u
  have _u := hI2
  clear _u
  have HR : Hid (EdR w v1 es1) := hR1
  have HBW : Hid (∀ x ∈ es1, edB x) := hB1
  have hpb := pickF_bd n0 8 (by omega)
  have HM : Hid (∀ X, EdR X v1 es1 → Calls Try.prog 15 #[.int .i64 n0, v1, .int .i64 8] X fun e w' => ∃ v', e = .returned (.agg #[.int .i64 (1 + pickF n0 8), v']) ∧ w'.ownsRow X.heap.size 65 3 v' (madeL (1 + pickF n0 8) es1).length ((madeL (1 + pickF n0 8) es1).flatMap encE) ∧ Below X.heap.size X w') := fun X hX => made_any n0 8 _ es1 X hX HBW.out hI0 (by omega) (by omega)
  have F0 : Hid (faultE (1 + pickF n0 8) (madeL (1 + pickF n0 8) es1) = 0) := made_right (by omega) (by omega)
  have HW9 : Hid (∀ e ∈ madeL (1 + pickF n0 8) es1, e.2.2 ≤ 9) := made_wgt
  have hEl := made_len (1 + pickF n0 8) es1
  have hn0 : 0 < 1 + pickF n0 8 := by omega
  have hn8 : 1 + pickF n0 8 ≤ 8 := by omega
  clear hpb hB1 hL1 hI0
  generalize madeL (1 + pickF n0 8) es1 = E at *
  generalize 1 + pickF n0 8 = N at *
  obtain ⟨m, rfl⟩ : ∃ m : Nat, N = m := ⟨N.toNat, by omega⟩
  have hm0 : 0 < m := by omega
  have HG : Hid (InG m E) := in_fault F0.out
  have CP : Hid (∀ X, Calls Try.prog 16 #[.int .i64 n2, .int .i64 m] X fun e w' => e = .returned (.int .i64 (pickF n2 m)) ∧ w' = X) := fun X => picked_any n2 m X hI2.1 hI2.2 hn0 (by omega)
  have hpv := pickF_bd n2 m hn0
  have CP2 : Hid (∀ X, Calls Try.prog 16 #[.int .i64 n2, .int .i64 m] X fun e w' => ∃ v, e = .returned v ∧ (v = .int .i64 (pickF n2 m) ∧ X = w')) := fun X => (CP.out X).mono fun e w' h => ⟨_, h.1, rfl, h.2.symm⟩
  clear CP
  generalize pickF n2 m = pv0 at *
  obtain ⟨pv, rfl⟩ : ∃ pv : Nat, pv0 = pv := ⟨pv0.toNat, by omega⟩
  have hps : 0 ≤ (pv : Int) ∧ (pv : Int) < (m : Int) := by omega
  have CD : Hid (∀ X v, EdR X v E → Calls Try.prog 18 #[.agg #[.int .i64 m, v], .int .i64 pv] X fun e w' => ∃ la lc, e = .returned (.tuple #[.slice la (distF m E pv).length lc, .int .i64 0]) ∧ InR w' (.slice la (distF m E pv).length lc) (distF m E pv) ∧ Below X.heap.size X w') := fun X v hX => by
    have h1 := pDist_any v E m pv X hX
    rw [errV_ok F0.out ⟨by omega, by omega⟩, Int.toNat_natCast] at h1
    refine h1.mono (fun e w' ⟨v', h2, h3, h4⟩ => ?_)
    have h5 : InR w' v' (distF m E pv) := RowK.own encI_len h3
    obtain ⟨la, lc, rfl⟩ := h5.shape
    exact ⟨la, lc, h2, h5, h4⟩
  have HLD : Hid ((distF m E pv).length = m) := (dist_ok HG.out hps).1
  obtain ⟨i, T, _, hi2, hG, hdn, hst, _, hvs⟩ := dist_rounds (M := 9) hm0 hps HG.out (by omega) HW9.out (by omega)
  have HT := ranT_of (jobE_ok F0.out (by omega) (fun _ => hps)) HG.out hG (by omega) hdn
  have CRN : Hid (∀ X v, EdR X v E → Calls Try.prog 17 #[.agg #[.int .i64 m, v, .int .i64 1, .int .i64 pv]] X fun e w' => ∃ la lc a1 n1 k1 a2 n2 k2, e = .returned (.tuple #[.slice la (distF m E pv).length lc, .agg #[.int .i64 i, .int .i64 T.phase, .bool T.fresh, .bool true, .slice a1 n1 k1, .slice a2 n2 k2], .bool true]) ∧ InR w' (.slice la (distF m E pv).length lc) (distF m E pv) ∧ Below X.heap.size X w') := fun X v hX => by
    have h1 := kran_any v E m 1 pv T X hX HT
    rw [tell_fst (by decide), hvs, hst] at h1
    exact h1
  generalize distF m E pv = L at *
  generalize T.phase = tp at *
  generalize T.fresh = tf at *
  have tl : ((L.length : Int) == (m : Int)) = true := by have := HLD.out; simp; omega
  have ws : IntKind.i64.wrap ((m : Int) + 1) = (m : Int) + 1 := wrap_id64 (by omega) (by omega)
  have ti : decide ((i : Int) ≤ (m : Int) + 1) = true := by simp; omega
  have ti' : (i : Int) ≤ (m : Int) + 1 := by omega
  clear HT hG hdn hst hvs F0 HW9 HG HLD
  obtain ⟨a, cap, rfl⟩ := hR1.shape
  clear hR1
  go_enter Try.func5, Try.ntmps5
  go_wp2_with fail
  refine (HM.out _ HR.out).mono ?_
  rintro e w1 ⟨va, rfl, hown1, hb1⟩
  have R1 : EdR w1 va E := RowK.own encE_len hown1
  obtain ⟨aa, ac, rfl, hac, ham, _, _⟩ := R1
  unfold maxLen at ham
  have RE : Hid (EdR w1 (.slice aa E.length ac) E) := RowK.own encE_len hown1
  have B1 : Hid (Below w.heap.size w w1) := hb1
  clear hown1 hb1 HM
  go_upto_region 2 with fail
  have N1 : BX 24 (w1.alloc (.cells #[.int .i64 m, .slice aa E.length ac] 24)) w1.heap.size #[.int .i64 m, .slice aa E.length ac] := BX.new _ _ _
  have A1 : Below w1.heap.size w1 (w1.alloc (.cells #[.int .i64 m, .slice aa E.length ac] 24)) := below_alloc _ _
  generalize w1.alloc (.cells #[.int .i64 m, .slice aa E.length ac] 24) = W1 at *
  have hl1 := N1.lt
  have HK : Hid (∀ X, Below W1.heap.size W1 X → BX 24 X w1.heap.size #[.int .i64 m, .slice aa E.length ac] ∧ Below w.heap.size w X ∧ EdR X (.slice aa E.length ac) E) := fun X hX => ⟨N1.below hX hl1, B1.out.trans ((A1.trans (hX.mono A1.size)).mono B1.out.size), RE.out.below (A1.trans (hX.mono A1.size)) (Nat.le_refl _)⟩
  generalize w1.heap.size = gq at *
  obtain ⟨q0, q1, _⟩ := N1.all2
  have RW : Hid (EdR W1 (.slice aa E.length ac) E) := (HK.out _ (Below.refl _ _)).2.2
  have HZ1 : Hid (gq < W1.heap.size) := hl1
  clear N1 A1
  have HS : Hid (∀ V, Below W1.heap.size W1 V → (V.cell? ⟨gq, 0, none⟩ = some (.int .i64 m) ∧ V.cell? ⟨gq, 1, none⟩ = some (.slice aa E.length ac))) := fun V hV => ⟨(HK.out V hV).1.all2.1, (HK.out V hV).1.all2.2.1⟩
  have ep : ∀ args w, (callFunc 16 args).run Try.prog w = .ok (.enter 16 args) w := enters_of Try.func16 (by kernel_rfl) rfl
  clear q0 q1
  go_cut [8] from 17 to 22 (fun t wx => ∃ jq, t = .pointer (some ⟨jq, 0, none⟩) ∧ BX 26 wx jq #[.int .i64 m, .slice aa E.length ac, .int .i64 1, .int .i64 pv] ∧ Below W1.heap.size W1 wx)
  case first =>
    have B0 : Below W1.heap.size W1 W1.drew := (Below.refl _ _).drew
    have HS0 : Hid (W1.drew.cell? ⟨gq, 0, none⟩ = some (.int .i64 m) ∧ W1.drew.cell? ⟨gq, 1, none⟩ = some (.slice aa E.length ac)) := HS.out _ B0
    have XA : BX 26 (W1.drew.alloc (.cells #[.int .i64 0, .slice none 0 0, .int .i64 0, .int .i64 0] 26)) W1.heap.size #[.int .i64 0, .slice none 0 0, .int .i64 0, .int .i64 0] := BX.new _ _ _
    have BA : Below W1.heap.size W1 (W1.drew.alloc (.cells #[.int .i64 0, .slice none 0 0, .int .i64 0, .int .i64 0] 26)) := B0.alloc (Nat.le_refl _) _
    have HSA : Hid ((W1.drew.alloc (.cells #[.int .i64 0, .slice none 0 0, .int .i64 0, .int .i64 0] 26)).cell? ⟨gq, 0, none⟩ = some (.int .i64 m) ∧ (W1.drew.alloc (.cells #[.int .i64 0, .slice none 0 0, .int .i64 0, .int .i64 0] 26)).cell? ⟨gq, 1, none⟩ = some (.slice aa E.length ac)) := HS.out _ BA
    have XP : Hid (BX 26 (put4 (W1.drew.alloc (.cells #[.int .i64 0, .slice none 0 0, .int .i64 0, .int .i64 0] 26)) W1.heap.size (.int .i64 m) (.slice aa E.length ac) (.int .i64 1) (.int .i64 pv)) W1.heap.size #[.int .i64 m, .slice aa E.length ac, .int .i64 1, .int .i64 pv]) := XA.put4
    have BP : Hid (Below W1.heap.size W1 (put4 (W1.drew.alloc (.cells #[.int .i64 0, .slice none 0 0, .int .i64 0, .int .i64 0] 26)) W1.heap.size (.int .i64 m) (.slice aa E.length ac) (.int .i64 1) (.int .i64 pv))) := BA.trans (Kept.below (kept_put4 _ _ _ _ _ _) BA.size (fun q hq => by omega))
    have HSP : Hid ((put4 (W1.drew.alloc (.cells #[.int .i64 0, .slice none 0 0, .int .i64 0, .int .i64 0] 26)) W1.heap.size (.int .i64 m) (.slice aa E.length ac) (.int .i64 1) (.int .i64 pv)).cell? ⟨gq, 0, none⟩ = some (.int .i64 m) ∧ (put4 (W1.drew.alloc (.cells #[.int .i64 0, .slice none 0 0, .int .i64 0, .int .i64 0] 26)) W1.heap.size (.int .i64 m) (.slice aa E.length ac) (.int .i64 1) (.int .i64 pv)).cell? ⟨gq, 1, none⟩ = some (.slice aa E.length ac)) := HS.out _ BP.out
    obtain ⟨m0, m1, m2, m3⟩ := XA.all4
    have f0 := XA.frozen 0
    have f1 := XA.frozen 1
    have f2 := XA.frozen 2
    have f3 := XA.frozen 3
    clear XA BA B0
    refine wp_region_held (S := fun V => (V.cell? ⟨gq, 0, none⟩ = some (.int .i64 m) ∧ V.cell? ⟨gq, 1, none⟩ = some (.slice aa E.length ac))) (by kernel_rfl) ?_
    simp only [List.size_toArray, List.length_cons, List.length_nil, Nat.reduceAdd]
    refine takeH (i := 0) (v := .agg #[.int .i64 m, .slice aa E.length ac]) (d := 17) rfl rfl (by kernel_rfl) (by kernel_rfl) (by kernel_rfl) (fun _ _ _ h => h) (by rfl) (fun V hV => by obtain ⟨v1, v2⟩ := hV; go_simp) HS0.out ?_
    simp only [Act.put, List.setIfInBounds_toArray, List.set_cons_zero, List.set_cons_succ]
    refine takeH (i := 1) (v := .int .i64 n2) (d := 18) rfl rfl (by kernel_rfl) (by kernel_rfl) (by kernel_rfl) (fun _ _ _ h => h) (by rfl) (fun V hV => by obtain ⟨v1, v2⟩ := hV; go_simp) HS0.out ?_
    simp only [Act.put, List.setIfInBounds_toArray, List.set_cons_zero, List.set_cons_succ]
    refine takeH (i := 2) (v := .pointer (some ⟨gq, 0, none⟩)) (d := 19) rfl rfl (by kernel_rfl) (by kernel_rfl) (by kernel_rfl) (fun _ _ _ h => h) (by rfl) (fun V hV => by obtain ⟨v1, v2⟩ := hV; go_simp) HS0.out ?_
    simp only [Act.put, List.setIfInBounds_toArray, List.set_cons_zero, List.set_cons_succ]
    refine takeH (i := 3) (v := .int .i64 m) (d := 20) rfl rfl (by kernel_rfl) (by kernel_rfl) (by kernel_rfl) (fun _ _ _ h => h) (by rfl) (fun V hV => by obtain ⟨v1, v2⟩ := hV; go_simp) HS0.out ?_
    simp only [Act.put, List.setIfInBounds_toArray, List.set_cons_zero, List.set_cons_succ]
    refine twoH (i := 4) (j := 6) rfl rfl (by kernel_rfl) rfl rfl ?wayc ?waya
    case wayc =>
      refine call_gets (d := 21) (f := 16) (xs := #[.tmp 18, .tmp 20]) (ats := #[3, 3]) rfl rfl ep (vs := #[.int .i64 n2, .int .i64 m]) (by simp [Act.eval]) (CP2.out _) ?_
      rintro vr wk ⟨rfl, rfl⟩
      refine ⟨HS0.out, ?_⟩
      simp only [Act.put, List.setIfInBounds_toArray, List.set_cons_zero, List.set_cons_succ]
      refine takeH (i := 5) (v := .agg #[.int .i64 m, .slice aa E.length ac, .int .i64 1, .int .i64 pv]) (d := 22) rfl rfl (by kernel_rfl) (by kernel_rfl) (by kernel_rfl) (fun _ _ _ h => h) (by rfl) (fun V hV => by obtain ⟨v1, v2⟩ := hV; go_simp) HS0.out ?_
      simp only [Act.put, List.setIfInBounds_toArray, List.set_cons_zero, List.set_cons_succ]
      refine oneH (i := 6) rfl (by kernel_rfl) rfl (op_run (d := 8) (v' := .pointer (some ⟨W1.heap.size, 0, none⟩)) (w' := W1.drew.alloc (.cells #[.int .i64 0, .slice none 0 0, .int .i64 0, .int .i64 0] 26)) rfl (by go_simp) ⟨HSA.out, ?_⟩)
      simp only [Act.put, List.setIfInBounds_toArray, List.set_cons_zero, List.set_cons_succ]
      refine oneH (i := 7) rfl (by kernel_rfl) rfl (op_skip (w' := put4 (W1.drew.alloc (.cells #[.int .i64 0, .slice none 0 0, .int .i64 0, .int .i64 0] 26)) W1.heap.size (.int .i64 m) (.slice aa E.length ac) (.int .i64 1) (.int .i64 pv)) rfl (by unfold put4; go_simp) ⟨HSP.out, ?_⟩)
      refine wpAnyH_done (by kernel_rfl) ?_ _
      clear HS0 HSA HSP HS m0 m1 m2 m3 f0 f1 f2 f3
      generalize put4 (W1.drew.alloc (.cells #[.int .i64 0, .slice none 0 0, .int .i64 0, .int .i64 0] 26)) W1.heap.size (.int .i64 m) (.slice aa E.length ac) (.int .i64 1) (.int .i64 pv) = WZ at *
      first
        | go_meet
        | (go_wp2_with fail; go_meet)
      case rel => exact ⟨_, rfl, XP.out, BP.out⟩
    case waya =>
      refine op_run (d := 8) (v' := .pointer (some ⟨W1.heap.size, 0, none⟩)) (w' := W1.drew.alloc (.cells #[.int .i64 0, .slice none 0 0, .int .i64 0, .int .i64 0] 26)) rfl (by go_simp) ⟨HSA.out, ?_⟩
      simp only [Act.put, List.setIfInBounds_toArray, List.set_cons_zero, List.set_cons_succ]
      refine oneH (i := 4) rfl (by kernel_rfl) rfl (call_gets (d := 21) (f := 16) (xs := #[.tmp 18, .tmp 20]) (ats := #[3, 3]) rfl rfl ep (vs := #[.int .i64 n2, .int .i64 m]) (by simp [Act.eval]) (CP2.out _) ?_)
      rintro vr wk ⟨rfl, rfl⟩
      refine ⟨HSA.out, ?_⟩
      simp only [Act.put, List.setIfInBounds_toArray, List.set_cons_zero, List.set_cons_succ]
      refine takeH (i := 5) (v := .agg #[.int .i64 m, .slice aa E.length ac, .int .i64 1, .int .i64 pv]) (d := 22) rfl rfl (by kernel_rfl) (by kernel_rfl) (by kernel_rfl) (fun _ _ _ h => h) (by rfl) (fun V hV => by obtain ⟨v1, v2⟩ := hV; go_simp) HSA.out ?_
      simp only [Act.put, List.setIfInBounds_toArray, List.set_cons_zero, List.set_cons_succ]
      refine oneH (i := 7) rfl (by kernel_rfl) rfl (op_skip (w' := put4 (W1.drew.alloc (.cells #[.int .i64 0, .slice none 0 0, .int .i64 0, .int .i64 0] 26)) W1.heap.size (.int .i64 m) (.slice aa E.length ac) (.int .i64 1) (.int .i64 pv)) rfl (by unfold put4; go_simp) ⟨HSP.out, ?_⟩)
      refine wpAnyH_done (by kernel_rfl) ?_ _
      clear HS0 HSA HSP HS m0 m1 m2 m3 f0 f1 f2 f3
      generalize put4 (W1.drew.alloc (.cells #[.int .i64 0, .slice none 0 0, .int .i64 0, .int .i64 0] 26)) W1.heap.size (.int .i64 m) (.slice aa E.length ac) (.int .i64 1) (.int .i64 pv) = WZ at *
      first
        | go_meet
        | (go_wp2_with fail; go_meet)
      case rel => exact ⟨_, rfl, XP.out, BP.out⟩
  case rest =>
  obtain ⟨jq, rfl, hjx, hjb⟩ := hcut
  have HJ : Hid (∀ X, Below wc.heap.size wc X → BX 26 X jq #[.int .i64 m, .slice aa E.length ac, .int .i64 1, .int .i64 pv]) := fun X hX => hjx.below hX hjx.lt
  have RW : Hid (EdR wc (.slice aa E.length ac) E) := (HK.out _ hjb).2.2
  have HK2 : Hid (∀ X, Below wc.heap.size wc X → BX 24 X gq #[.int .i64 m, .slice aa E.length ac] ∧ Below w.heap.size w X ∧ EdR X (.slice aa E.length ac) E) := fun X hX => HK.out X (hjb.trans (hX.mono hjb.size))
  clear HK HS
  have HK := HK2
  clear HK2
  obtain ⟨W1, hW1⟩ : ∃ W, W = wc := ⟨_, rfl⟩
  rw [← hW1] at HJ RW HK hjx hjb ⊢
  clear hW1
  obtain ⟨j0, j1, j2, j3⟩ := hjx.all4
  clear hjx hjb
  go_wp2_with fail
  refine (CRN.out _ _ RW.out).mono ?_
  rintro e W2 ⟨la, lc, a1, n1, k1, a2, n2, k2, rfl, hr2, hb2⟩
  have hs2 := hb2.size
  have W3 : Hid (Below W1.heap.size W1 (W2.alloc (.cells #[.int .i64 i, .int .i64 tp, .bool tf, .bool true, .slice a1 n1 k1, .slice a2 n2 k2] 30)) ∧ BX 30 (W2.alloc (.cells #[.int .i64 i, .int .i64 tp, .bool tf, .bool true, .slice a1 n1 k1, .slice a2 n2 k2] 30)) W2.heap.size #[.int .i64 i, .int .i64 tp, .bool tf, .bool true, .slice a1 n1 k1, .slice a2 n2 k2] ∧ InR (W2.alloc (.cells #[.int .i64 i, .int .i64 tp, .bool tf, .bool true, .slice a1 n1 k1, .slice a2 n2 k2] 30)) (.slice la L.length lc) L) := ⟨hb2.alloc hb2.size _, BX.new _ _ _, hr2.below (below_alloc _ _) (Nat.le_refl _)⟩
  clear hr2 hb2 j0 j1 j2 j3 CRN RW
  go_upto_region 4 with fail
  generalize W2.alloc (.cells #[.int .i64 i, .int .i64 tp, .bool tf, .bool true, .slice a1 n1 k1, .slice a2 n2 k2] 30) = W4 at *
  generalize W2.heap.size = sq at *
  obtain ⟨b4, x4, r4⟩ := W3.out
  have A4 : Hid (Below W1.heap.size W1 W4) := b4
  have X4 : Hid (BX 30 W4 sq #[.int .i64 i, .int .i64 tp, .bool tf, .bool true, .slice a1 n1 k1, .slice a2 n2 k2]) := x4
  have R4 : Hid (InR W4 (.slice la L.length lc) L) := r4
  obtain ⟨Q4, _, E4⟩ := HK.out _ b4
  have RW : Hid (EdR W4 (.slice aa E.length ac) E) := E4
  obtain ⟨q0, q1, _⟩ := Q4.all2
  obtain ⟨⟨c0, c1, c2, c3, c4, c5⟩, _⟩ := x4.all6
  have J4 := HJ.out _ b4
  obtain ⟨j0, j1, j2, j3⟩ := J4.all4
  clear W3 b4 x4 r4 Q4 E4 J4
  go_wp2_with fail
  refine (CD.out _ _ RW.out).mono ?_
  rintro e W5 ⟨ka, kc, rfl, hr5, hb5⟩
  have CSM : Hid (∀ X, X = W5 → Calls Try.prog 19 #[.slice la L.length lc, .slice ka L.length kc] W5 fun e w' => e = .returned (.bool true) ∧ Below W5.heap.size W5 w') := fun X _ => sameIntsK_yes _ _ L W5 (R4.out.below hb5 (Nat.le_refl _)) hr5
  have A5 : Below W1.heap.size W1 W5 := A4.out.trans (hb5.mono A4.out.size)
  have AH5 : Hid (Below W1.heap.size W1 W5) := A5
  obtain ⟨Q5, _, _⟩ := HK.out _ A5
  have X5 := X4.out.below hb5 X4.out.lt
  clear q0 q1 c0 c1 c2 c3 c4 c5 j0 j1 j2 j3
  obtain ⟨q0, q1, _⟩ := Q5.all2
  obtain ⟨⟨c0, c1, c2, c3, c4, c5⟩, _⟩ := X5.all6
  have HX5 : Hid (BX 30 W5 sq #[.int .i64 i, .int .i64 tp, .bool tf, .bool true, .slice a1 n1 k1, .slice a2 n2 k2]) := X5
  clear Q5 X5 hr5 hb5 A5 CD X4 R4 A4 RW
  go_wp2_with fail
  refine (CSM.out _ rfl).mono ?_
  rintro e W6 ⟨rfl, hb6⟩
  have A6 : Below W1.heap.size W1 W6 := AH5.out.trans (hb6.mono AH5.out.size)
  obtain ⟨Q6, B6, _⟩ := HK.out _ A6
  have BW : Hid (Below w.heap.size w W6) := B6
  have X6 := HX5.out.below hb6 HX5.out.lt
  clear q0 q1 c0 c1 c2 c3 c4 c5
  obtain ⟨q0, q1, _⟩ := Q6.all2
  obtain ⟨⟨c0, c1, c2, c3, c4, c5⟩, _⟩ := X6.all6
  clear Q6 X6 hb6 A6 CSM B6 HK
  go_wp2_with fail
  go_ret
  exact ⟨rfl, BW.out⟩

set_option maxHeartbeats 400000 in
set_option maxRecDepth 100000 in
theorem lifted (os : Os) (started : os.Started) (H : Type) (enc : TypeId × Value → H) :
    ReturnsInHanded {} Try.checked os 5 .any (Rows.roundsDistSpec.pre6 enc Try.prog Try.f5 Rows.roundsDistRow.domain false) (Rows.roundsDistSpec.post enc Try.prog Try.f5 false true false false) := by
  refine returnsInHanded_of_change_sized (C := Try.checked) own started (by kernel_rfl) Try.func5
    (ChangeSpec.witness6 (enc := enc) (C := Try.checked) false ⟨#[], #[.int .i64 0, .slice none 0 0, .int .i64 0], []⟩ 8 (by kernel_rfl) (by kernel_rfl) (by kernel_rfl) (by kernel_rfl)) ?_
  intro W base args ds gs before hval0 hW _ hsz0 _
  have hval : ∀ (j : Nat) t v, Try.f5.params[j]? = some t → args[j]? = some v → Value.okWide Try.prog W .any base t v := hval0
  have hW' := hW
  obtain ⟨p, q, hA0, hV, rfl, hfz, hnd⟩ := hW
  have hA : DataW.TrodAll enc Try.prog W 0 (fun _ => true) true Try.f5.params.toList args.toList ds p := hA0
  have hsz : (DataW.weightsEach Try.prog (Try.f5.params.toList ++ Rows.roundsDistSpec.plain.varTypes Try.prog) (ds ++ gs)).all (fun x => decide (x ≤ reachBytes)) = true := hsz0
  rw [Try.params5] at hA hval hsz
  obtain ⟨v0, vs0, d0, ds0, p0, q0, hargs, rfl, rfl, h0, r0⟩ := trodAll_cons hA
  obtain ⟨v1, vs1, d1, ds1, p1, q1, rfl, rfl, rfl, h1, r1⟩ := trodAll_cons r0
  obtain ⟨v2, vs2, d2, ds2, p2, q2, rfl, rfl, rfl, h2, r2⟩ := trodAll_cons r1
  obtain ⟨rfl, rfl, rfl⟩ := trodAll_nil r2
  obtain rfl : args = #[v0, v1, v2] := by cases args; simp_all
  obtain ⟨rfl, rfl⟩ := trodVars_none hV
  have k0 := h0
  have lt0 : ∀ x ∈ p0, x.block < W.heap.size := by obtain ⟨m, hm⟩ := k0; exact DataW.trod_lt m _ _ _ hm
  have k1 := h1
  have lt1 : ∀ x ∈ p1, x.block < W.heap.size := by obtain ⟨m, hm⟩ := k1; exact DataW.trod_lt m _ _ _ hm
  have hw1 : ∀ m ∈ d1.weights Try.prog 40, m ≤ reachBytes := fun m hm => by simpa using List.all_eq_true.1 hsz _ (DataW.weights_mem_each (j := 1) (t := 40) rfl rfl m hm)
  have k2 := h2
  have lt2 : ∀ x ∈ p2, x.block < W.heap.size := by obtain ⟨m, hm⟩ := k2; exact DataW.trod_lt m _ _ _ hm
  obtain ⟨n0, rfl, _, _, wf0⟩ := open_int Try.underlying3 (hval 0 3 v0 rfl rfl) h0
  have hI0 := bounds_i64 wf0
  obtain ⟨es1, hR1, hB1, hL1⟩ := open_ways (okWide_slice Try.underlying40 (hval 1 40 v1 rfl rfl)) h1 hw1
  obtain ⟨n2, rfl, _, _, wf2⟩ := open_int Try.underlying3 (hval 2 3 v2 rfl rfl) h2
  have hI2 := bounds_i64 wf2
  clear hA0 hval0
  refine (walk n0 v1 es1 n2 W hI0 hR1 hB1 hL1 hI2).mono fun e W' ⟨he, bel⟩ => ?_
  subst he
  exact ⟨_, rfl, _, _, _, [], _, [], hW', trodAll_mk1 (shut_bool Try.underlying4 _), (trodAll_cons_mk (Below.trod laidOut (by kernel_rfl) (of_decide_eq_true (by kernel_rfl)) k0 bel lt0) (trodAll_cons_mk (Below.trod laidOut (by kernel_rfl) (of_decide_eq_true (by kernel_rfl)) k1 bel lt1) (trodAll_cons_mk (Below.trod laidOut (by kernel_rfl) (of_decide_eq_true (by kernel_rfl)) k2 bel lt2) trodAll_mk0))), rfl, bel.frame _, fun h => by cases h⟩

theorem over : Rows.roundsDistRow.holds Try.pinned (OpenSpec.ofChange Rows.roundsDistSpec) :=
  OpenClaim.holds_of_wide 5 Try.f5 rfl rfl rfl rfl rfl rfl rfl ⟨rfl, rfl, rfl, rfl, rfl⟩ rfl rfl rfl rfl rfl (by kernel_rfl) Try.func5 (by kernel_rfl)
    (of_decide_eq_true (by kernel_rfl)) (by unfold Func.isWrapper; first | (rw [if_pos (by decide +kernel)]; kernel_rfl) | (rw [if_neg (by decide +kernel)]; exact ⟨rfl, rfl⟩))
    (fun os started H enc _ => lifted os started H enc)

/-- The statement. -/
theorem proved : Rows.RoundsDistSaid := over
#print axioms proved
end Go.Proofs.Ytbmkgnlfccigpaa.roundsDist
