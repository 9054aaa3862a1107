/-
  For every number and ways the rounds of Strong tell of a graph that is made of them the least vertices that each reaches and that reach it, which the paths tell, within n * (2 * n + 4) rounds of n vertices (the law RoundsStrong returns true, and its arguments read as before); no condition.
-/
import Derived.Test.YtbmkgnlfccigpaaGreatWayOpen
import Derived.Test.YtbmkgnlfccigpaaGreatRoundsStrongPartA
import Derived.Test.YtbmkgnlfccigpaaGreatRoundsStrongPartB
import Derived.Test.YtbmkgnlfccigpaaGreatBoxMem
import Derived.WalkKit
import Derived.ProofKit
import Derived.OpenShut
import Derived.ShutString
import Derived.SizedLaws
import Derived.ChangeOld
import Derived.Below
namespace Go.Proofs.YtbmkgnlfccigpaaGreat.roundsStrong
set_option maxRecDepth 100000
open Go.ChangeShapes Go.WideShapes Go.ChangeAt Go.RowKit

theorem own : ownKnob Tryz.prog.godebug = none := by kernel_rfl
theorem laidOut : laidOutB Tryz.prog = true := by kernel_rfl

set_option maxHeartbeats 4000000 in
set_option maxRecDepth 100000 in
theorem walk (n0 : Int) (v1 : Value) (es1 : List Ed) (w : World) (hI0 : -9223372036854775808 ≤ n0 ∧ n0 ≤ 9223372036854775807) (hR1 : EdR w v1 es1) (hB1 : ∀ x ∈ es1, edB x) (hL1 : es1.length * 24 ≤ 140737488351232) :
    Calls Tryz.prog 3 #[.int .i64 n0, v1] w fun e w' => e = .returned (.bool true) ∧ Below w.heap.size w w' := by
  have _u := hI0
  clear _u
  have _u := hR1
  clear _u
  have _u := hB1
  clear _u
  have _u := hL1
  clear _u
  have HR : Hid (EdR w v1 es1) := hR1
  have HBW : Hid (∀ x ∈ es1, edB x) := hB1
  have hpb := pickF_bd n0 8 (by omega)
  have HM : Hid (∀ X, EdR X v1 es1 → Calls Tryz.prog 4 #[.int .i64 n0, v1, .int .i64 8] X fun e w' => ∃ v', e = .returned (.agg #[.int .i64 (1 + pickF n0 8), v']) ∧ w'.ownsRow X.heap.size 44 3 v' (madeL (1 + pickF n0 8) es1).length ((madeL (1 + pickF n0 8) es1).flatMap encE) ∧ Below X.heap.size X w') := fun X hX => made_any n0 8 _ es1 X hX HBW.out hI0 (by omega) (by omega)
  have F0 : Hid (faultE (1 + pickF n0 8) (madeL (1 + pickF n0 8) es1) = 0) := made_right (by omega) (by omega)
  have HW9 : Hid (∀ e ∈ madeL (1 + pickF n0 8) es1, e.2.2 ≤ 9) := made_wgt
  have hEl := made_len (1 + pickF n0 8) es1
  have hn0 : 0 < 1 + pickF n0 8 := by omega
  have hn8 : 1 + pickF n0 8 ≤ 8 := by omega
  clear hpb hB1 hL1 hI0
  generalize madeL (1 + pickF n0 8) es1 = E at *
  generalize 1 + pickF n0 8 = N at *
  obtain ⟨m, rfl⟩ : ∃ m : Nat, N = m := ⟨N.toNat, by omega⟩
  have hm0 : 0 < m := by omega
  have HG : Hid (InG m E) := in_fault F0.out
  have CD : Hid (∀ X v, EdR X v E → Calls Tryz.prog 6 #[.agg #[.int .i64 m, v]] X fun e w' => ∃ la lc, e = .returned (.tuple #[.slice la (strongF m E).length lc, .int .i64 0]) ∧ InR w' (.slice la (strongF m E).length lc) (strongF m E) ∧ Below X.heap.size X w') := fun X v hX => by
    have h1 := pStrong_any v E m X hX
    rw [F0.out, Int.toNat_natCast] at h1
    refine h1.mono (fun e w' ⟨v', h2, h3, h4⟩ => ?_)
    have h5 : InR w' v' (strongF m E) := RowK.own encI_len h3
    obtain ⟨la, lc, rfl⟩ := h5.shape
    exact ⟨la, lc, h2, h5, h4⟩
  have HLD : Hid ((strongF m E).length = m) := (strong_ok HG.out).1
  obtain ⟨i, T, _, hi2, hG, hdn, hst, _, hvs⟩ := strong_rounds (s := 0) hm0 (by omega) HG.out
  have HT := ranT_of (jobE_ok F0.out (by omega) (fun h => by omega)) HG.out hG (by have : m * (2 * m + 2) ≤ 8 * 18 := Nat.mul_le_mul (by omega) (by omega); omega) hdn
  have CRN : Hid (∀ X v, EdR X v E → Calls Tryz.prog 5 #[.agg #[.int .i64 m, v, .int .i64 3, .int .i64 0]] X fun e w' => ∃ la lc a1 n1 k1 a2 n2 k2, e = .returned (.tuple #[.slice la (strongF m E).length lc, .agg #[.int .i64 i, .int .i64 T.phase, .bool T.fresh, .bool true, .slice a1 n1 k1, .slice a2 n2 k2], .bool true]) ∧ InR w' (.slice la (strongF m E).length lc) (strongF m E) ∧ Below X.heap.size X w') := fun X v hX => by
    have h1 := kran_any v E m 3 0 T X hX HT
    rw [tell_snd, hvs, hst] at h1
    exact h1
  generalize strongF m E = L at *
  generalize T.phase = tp at *
  generalize T.fresh = tf at *
  have tl : ((L.length : Int) == (m : Int)) = true := by have := HLD.out; simp; omega
  have ws1 : IntKind.i64.wrap (2 * (m : Int)) = 2 * (m : Int) := wrap_id64 (by omega) (by omega)
  have ws2 : IntKind.i64.wrap (2 * (m : Int) + 4) = 2 * (m : Int) + 4 := wrap_id64 (by omega) (by omega)
  have hP0 : m * (2 * m + 4) ≤ 8 * 20 := Nat.mul_le_mul (by omega) (by omega)
  have hP1 : m * (2 * m + 2) ≤ m * (2 * m + 4) := Nat.mul_le_mul_left _ (by omega)
  have hP2 : ((m * (2 * m + 4) : Nat) : Int) = (m : Int) * (2 * (m : Int) + 4) := by rw [Int.natCast_mul, Int.natCast_add, Int.natCast_mul]; rfl
  have ws3 : IntKind.i64.wrap ((m : Int) * (2 * (m : Int) + 4)) = ((m * (2 * m + 4) : Nat) : Int) := by rw [← hP2]; exact wrap_id64 (by omega) (by omega)
  have ti : decide ((i : Int) ≤ ((m * (2 * m + 4) : Nat) : Int)) = true := by simp only [decide_eq_true_eq]; omega
  have ti' : (i : Int) ≤ ((m * (2 * m + 4) : Nat) : Int) := by omega
  clear hP2
  generalize m * (2 * m + 4) = P at *
  clear HT hG hdn hst hvs F0 HW9 HG HLD
  obtain ⟨a, cap, rfl⟩ := hR1.shape
  clear hR1
  go_enter Tryz.func3, Tryz.ntmps3
  go_wp2_with fail
  refine (HM.out _ HR.out).mono ?_
  rintro e w1 ⟨va, rfl, hown1, hb1⟩
  have R1 : EdR w1 va E := RowK.own encE_len hown1
  obtain ⟨aa, ac, rfl, hac, ham, _, _⟩ := R1
  unfold maxLen at ham
  have RE : Hid (EdR w1 (.slice aa E.length ac) E) := RowK.own encE_len hown1
  have B1 : Hid (Below w.heap.size w w1) := hb1
  clear hown1 hb1 HM
  go_upto_region 2 with fail
  have N1 : BX 25 (w1.alloc (.cells #[.int .i64 m, .slice aa E.length ac] 25)) w1.heap.size #[.int .i64 m, .slice aa E.length ac] := BX.new _ _ _
  have A1 : Below w1.heap.size w1 (w1.alloc (.cells #[.int .i64 m, .slice aa E.length ac] 25)) := below_alloc _ _
  generalize w1.alloc (.cells #[.int .i64 m, .slice aa E.length ac] 25) = W1 at *
  have hl1 := N1.lt
  have HK : Hid (∀ X, Below W1.heap.size W1 X → BX 25 X w1.heap.size #[.int .i64 m, .slice aa E.length ac] ∧ Below w.heap.size w X ∧ EdR X (.slice aa E.length ac) E) := fun X hX => ⟨N1.below hX hl1, B1.out.trans ((A1.trans (hX.mono A1.size)).mono B1.out.size), RE.out.below (A1.trans (hX.mono A1.size)) (Nat.le_refl _)⟩
  generalize w1.heap.size = gq at *
  obtain ⟨q0, q1, _⟩ := N1.all2
  have RW : Hid (EdR W1 (.slice aa E.length ac) E) := (HK.out _ (Below.refl _ _)).2.2
  have HZ1 : Hid (gq < W1.heap.size) := hl1
  clear N1 A1
  go_wp2_with fail
  refine (CRN.out _ _ RW.out).mono ?_
  rintro e W2 ⟨la, lc, a1, n1, k1, a2, n2, k2, rfl, hr2, hb2⟩
  have hs2 := hb2.size
  have W3 : Hid (Below W1.heap.size W1 (W2.alloc (.cells #[.int .i64 i, .int .i64 tp, .bool tf, .bool true, .slice a1 n1 k1, .slice a2 n2 k2] 31)) ∧ BX 31 (W2.alloc (.cells #[.int .i64 i, .int .i64 tp, .bool tf, .bool true, .slice a1 n1 k1, .slice a2 n2 k2] 31)) W2.heap.size #[.int .i64 i, .int .i64 tp, .bool tf, .bool true, .slice a1 n1 k1, .slice a2 n2 k2] ∧ InR (W2.alloc (.cells #[.int .i64 i, .int .i64 tp, .bool tf, .bool true, .slice a1 n1 k1, .slice a2 n2 k2] 31)) (.slice la L.length lc) L) := ⟨hb2.alloc hb2.size _, BX.new _ _ _, hr2.below (below_alloc _ _) (Nat.le_refl _)⟩
  clear hr2 hb2 q0 q1 CRN RW
  go_upto_region 3 with fail
  generalize W2.alloc (.cells #[.int .i64 i, .int .i64 tp, .bool tf, .bool true, .slice a1 n1 k1, .slice a2 n2 k2] 31) = W4 at *
  generalize W2.heap.size = sq at *
  obtain ⟨b4, x4, r4⟩ := W3.out
  have A4 : Hid (Below W1.heap.size W1 W4) := b4
  have X4 : Hid (BX 31 W4 sq #[.int .i64 i, .int .i64 tp, .bool tf, .bool true, .slice a1 n1 k1, .slice a2 n2 k2]) := x4
  have R4 : Hid (InR W4 (.slice la L.length lc) L) := r4
  obtain ⟨Q4, _, E4⟩ := HK.out _ b4
  have RW : Hid (EdR W4 (.slice aa E.length ac) E) := E4
  obtain ⟨q0, q1, _⟩ := Q4.all2
  obtain ⟨⟨c0, c1, c2, c3, c4, c5⟩, _⟩ := x4.all6
  clear W3 b4 x4 r4 Q4 E4
  go_wp2_with fail
  refine (CD.out _ _ RW.out).mono ?_
  rintro e W5 ⟨ka, kc, rfl, hr5, hb5⟩
  have CSM : Hid (∀ X, X = W5 → Calls Tryz.prog 7 #[.slice la L.length lc, .slice ka L.length kc] W5 fun e w' => e = .returned (.bool true) ∧ Below W5.heap.size W5 w') := fun X _ => sameIntsK_yes _ _ L W5 (R4.out.below hb5 (Nat.le_refl _)) hr5
  have A5 : Below W1.heap.size W1 W5 := A4.out.trans (hb5.mono A4.out.size)
  have AH5 : Hid (Below W1.heap.size W1 W5) := A5
  obtain ⟨Q5, _, _⟩ := HK.out _ A5
  have X5 := X4.out.below hb5 X4.out.lt
  clear q0 q1 c0 c1 c2 c3 c4 c5
  obtain ⟨q0, q1, _⟩ := Q5.all2
  obtain ⟨⟨c0, c1, c2, c3, c4, c5⟩, _⟩ := X5.all6
  have HX5 : Hid (BX 31 W5 sq #[.int .i64 i, .int .i64 tp, .bool tf, .bool true, .slice a1 n1 k1, .slice a2 n2 k2]) := X5
  clear Q5 X5 hr5 hb5 A5 CD X4 R4 A4 RW
  go_wp2_with fail
  refine (CSM.out _ rfl).mono ?_
  rintro e W6 ⟨rfl, hb6⟩
  have A6 : Below W1.heap.size W1 W6 := AH5.out.trans (hb6.mono AH5.out.size)
  obtain ⟨Q6, B6, _⟩ := HK.out _ A6
  have BW : Hid (Below w.heap.size w W6) := B6
  have X6 := HX5.out.below hb6 HX5.out.lt
  clear q0 q1 c0 c1 c2 c3 c4 c5
  obtain ⟨q0, q1, _⟩ := Q6.all2
  obtain ⟨⟨c0, c1, c2, c3, c4, c5⟩, _⟩ := X6.all6
  clear Q6 X6 hb6 A6 CSM B6 HK
  go_wp2_with fail
  go_ret
  exact ⟨rfl, BW.out⟩

set_option maxHeartbeats 400000 in
set_option maxRecDepth 100000 in
theorem lifted (os : Os) (started : os.Started) (H : Type) (enc : TypeId × Value → H) :
    ReturnsInHanded {} Tryz.checked os 3 .any (Rows.roundsStrongSpec.pre6 enc Tryz.prog Tryz.f3 Rows.roundsStrongRow.domain false) (Rows.roundsStrongSpec.post enc Tryz.prog Tryz.f3 false true false false) := by
  refine returnsInHanded_of_change_sized (C := Tryz.checked) own started (by kernel_rfl) Tryz.func3
    (ChangeSpec.witness6 (enc := enc) (C := Tryz.checked) false ⟨#[], #[.int .i64 0, .slice none 0 0], []⟩ 8 (by kernel_rfl) (by kernel_rfl) (by kernel_rfl) (by kernel_rfl)) ?_
  intro W base args ds gs before hval0 hW _ hsz0 _
  have hval : ∀ (j : Nat) t v, Tryz.f3.params[j]? = some t → args[j]? = some v → Value.okWide Tryz.prog W .any base t v := hval0
  have hW' := hW
  obtain ⟨p, q, hA0, hV, rfl, hfz, hnd⟩ := hW
  have hA : DataW.TrodAll enc Tryz.prog W 0 (fun _ => true) true Tryz.f3.params.toList args.toList ds p := hA0
  have hsz : (DataW.weightsEach Tryz.prog (Tryz.f3.params.toList ++ Rows.roundsStrongSpec.plain.varTypes Tryz.prog) (ds ++ gs)).all (fun x => decide (x ≤ reachBytes)) = true := hsz0
  rw [Tryz.params3] at hA hval hsz
  obtain ⟨v0, vs0, d0, ds0, p0, q0, hargs, rfl, rfl, h0, r0⟩ := trodAll_cons hA
  obtain ⟨v1, vs1, d1, ds1, p1, q1, rfl, rfl, rfl, h1, r1⟩ := trodAll_cons r0
  obtain ⟨rfl, rfl, rfl⟩ := trodAll_nil r1
  obtain rfl : args = #[v0, v1] := by cases args; simp_all
  obtain ⟨rfl, rfl⟩ := trodVars_none hV
  have k0 := h0
  have lt0 : ∀ x ∈ p0, x.block < W.heap.size := by obtain ⟨m, hm⟩ := k0; exact DataW.trod_lt m _ _ _ hm
  have k1 := h1
  have lt1 : ∀ x ∈ p1, x.block < W.heap.size := by obtain ⟨m, hm⟩ := k1; exact DataW.trod_lt m _ _ _ hm
  have hw1 : ∀ m ∈ d1.weights Tryz.prog 22, m ≤ reachBytes := fun m hm => by simpa using List.all_eq_true.1 hsz _ (DataW.weights_mem_each (j := 1) (t := 22) rfl rfl m hm)
  obtain ⟨n0, rfl, _, _, wf0⟩ := open_int Tryz.underlying3 (hval 0 3 v0 rfl rfl) h0
  have hI0 := bounds_i64 wf0
  obtain ⟨es1, hR1, hB1, hL1⟩ := open_ways (okWide_slice Tryz.underlying22 (hval 1 22 v1 rfl rfl)) h1 hw1
  clear hA0 hval0
  refine (walk n0 v1 es1 W hI0 hR1 hB1 hL1).mono fun e W' ⟨he, bel⟩ => ?_
  subst he
  exact ⟨_, rfl, _, _, _, [], _, [], hW', trodAll_mk1 (shut_bool Tryz.underlying4 _), (trodAll_cons_mk (Below.trod laidOut (by kernel_rfl) (of_decide_eq_true (by kernel_rfl)) k0 bel lt0) (trodAll_cons_mk (Below.trod laidOut (by kernel_rfl) (of_decide_eq_true (by kernel_rfl)) k1 bel lt1) trodAll_mk0)), rfl, bel.frame _, fun h => by cases h⟩

theorem over : Rows.roundsStrongRow.holds Tryz.pinned (OpenSpec.ofChange Rows.roundsStrongSpec) :=
  OpenClaim.holds_of_wide 3 Tryz.f3 rfl rfl rfl rfl rfl rfl rfl ⟨rfl, rfl, rfl, rfl, rfl⟩ rfl rfl rfl rfl rfl (by kernel_rfl) Tryz.func3 (by kernel_rfl)
    (of_decide_eq_true (by kernel_rfl)) (by unfold Func.isWrapper; first | (rw [if_pos (by decide +kernel)]; kernel_rfl) | (rw [if_neg (by decide +kernel)]; exact ⟨rfl, rfl⟩))
    (fun os started H enc _ => lifted os started H enc)

/-- The statement. -/
theorem proved : Rows.RoundsStrongSaid := over
#print axioms proved
end Go.Proofs.YtbmkgnlfccigpaaGreat.roundsStrong
