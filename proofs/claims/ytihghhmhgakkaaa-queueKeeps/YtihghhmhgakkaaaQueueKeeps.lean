/-
  For every number and every list of raw numbers: what was pushed piece by piece is drained, in order, and nothing else; it is counted; and at any time less than the budget lay loose (the law QueueKeeps returns true, and its arguments read as before); no condition.
-/
import Derived.Test.YtihghhmhgakkaaaKeepMail
import Derived.Test.YtihghhmhgakkaaaKeepSame
import Derived.Test.YtihghhmhgakkaaaQueueKeepsPartC
import Derived.WalkKit
import Derived.ProofKit
import Derived.OpenShut
import Derived.ShutString
import Derived.SizedLaws
import Derived.ChangeOld
import Derived.Below
namespace Go.Proofs.Ytihghhmhgakkaaa.queueKeeps
set_option maxRecDepth 100000
open Go.ChangeShapes Go.WideShapes Go.ChangeAt Go.RowKit

theorem own : ownKnob Try.prog.godebug = none := by kernel_rfl
theorem laidOut : laidOutB Try.prog = true := by kernel_rfl
theorem post_may (es : List Ml) : mayA (postL es) = true := by
  refine mayA_iff.2 fun m hm => ?_
  unfold postL at hm
  obtain ⟨x, _, rfl⟩ := List.mem_map.1 hm
  have h1 := pickF_bd x.1 6 (by decide)
  have h2 := pickF_bd x.2 1000 (by decide)
  refine mayM_iff.2 ?_
  show 0 ≤ pickF x.1 6 ∧ pickF x.1 6 < 200 ∧ 0 ≤ pickF x.2 1000 ∧ pickF x.2 1000 ≤ 4398046511104
  omega
set_option maxHeartbeats 1000000 in
set_option maxRecDepth 100000 in
theorem walk (n0 : Int) (v1 : Value) (es1 : List Ml) (w : World) (hI0 : -9223372036854775808 ≤ n0 ∧ n0 ≤ 9223372036854775807) (hR1 : MlR w v1 es1) (hB1 : ∀ x ∈ es1, mlB x) (hL1 : es1.length * 16 ≤ 140737488351232) :
    Calls Try.prog 6 #[.int .i64 n0, v1] w fun e w' => e = .returned (.bool true) ∧ Below w.heap.size w w' := by
  have _u := hI0
  clear _u
  have _u := hR1
  clear _u
  have _u := hB1
  clear _u
  have _u := hL1
  clear _u
  have HR : Hid (MlR w v1 es1) := hR1
  have HPB : Hid (∀ x ∈ es1, mlB x) := hB1
  have hpk := pickF_bd n0 6 (by decide)
  obtain ⟨B, hB, hB1', hB2'⟩ : ∃ B : Nat, IntKind.i64.wrap (1 + pickF n0 6) = (B : Int) ∧ 1 ≤ B ∧ B ≤ 6 := ⟨(1 + pickF n0 6).toNat, by rw [IntKind.wrap_i64]; omega, by omega, by omega⟩
  have HPK : Hid (∀ X, Calls Try.prog 18 #[.int .i64 n0, .int .i64 6] X fun e w' => e = .returned (.int .i64 (pickF n0 6)) ∧ X = w') := fun X => (picked_any n0 6 X hI0.1 hI0.2 (by omega) (by omega)).mono fun _ _ h => ⟨h.1, h.2.symm⟩
  obtain ⟨a, cap, rfl⟩ := hR1.shape
  clear hR1 hB1 hpk
  generalize pickF n0 6 = pk at *
  go_enter Try.func6, Try.ntmps6
  go_wp2_with fail
  refine (HPK.out _).mono ?_
  rintro e w1 ⟨rfl, rfl⟩
  go_wp2_with fail
  refine (posts_any _ es1 _ HR.out HPB.out).mono ?_
  rintro e w1 ⟨c, rfl, ho1, hb1⟩
  have C1 : Hid (MlR w1 c (postL es1)) := MlR.ownd ho1
  have B1 : Hid (Below w.heap.size w w1) := hb1
  have hl40 := postL_len es1
  have HMY : Hid (mayA (postL es1) = true) := post_may es1
  obtain ⟨ca, cc, rfl⟩ := C1.out.shape
  have hs1 := hb1.size
  clear ho1 hb1
  generalize postL es1 = l at *
  go_wp2_with fail
  refine (filled_any B _ l _ C1.out HMY.out hB1' (by omega) hl40).mono ?_
  rintro e w2 ⟨lo, rs, f, vl, vr, most, rfl, hf, hmo, hq, hb2⟩
  obtain ⟨xa, xc, rfl⟩ := hq.1.shape
  obtain ⟨ya, yc, rfl, _⟩ := id hq.2
  have X2 : Hid (QX (w2.alloc (.cells #[.int .i64 (B : Int), .slice xa lo.length xc, .slice ya rs.length yc] 25)) w2.heap.size (.int .i64 (B : Int)) (.slice xa lo.length xc) (.slice ya rs.length yc)) := QX.new _ _ _ _
  have B2 : Hid (Below w.heap.size w (w2.alloc (.cells #[.int .i64 (B : Int), .slice xa lo.length xc, .slice ya rs.length yc] 25))) := (B1.out.trans (hb2.mono hs1)).alloc (Nat.le_trans hs1 hb2.size) _
  have QB : Hid (QuB lo rs) := hf.bound
  have R2 : Hid (QuR (w2.alloc (.cells #[.int .i64 (B : Int), .slice xa lo.length xc, .slice ya rs.length yc] 25)) (.slice xa lo.length xc) (.slice ya rs.length yc) lo rs) := hq.below (below_alloc _ _) (Nat.le_refl _)
  have C2 : Hid (MlR (w2.alloc (.cells #[.int .i64 (B : Int), .slice xa lo.length xc, .slice ya rs.length yc] 25)) (.slice ca l.length cc) l) := (C1.out.below hb2 (Nat.le_refl _)).below (below_alloc _ _) (Nat.le_refl _)
  have HDr : Hid (∀ X, QuR X (.slice xa lo.length xc) (.slice ya rs.length yc) lo rs → Calls Try.prog 13 #[.agg #[.int .i64 (B : Int), .slice xa lo.length xc, .slice ya rs.length yc]] X (RefP X 0 (sortM l))) := fun X hX => by
    have h := queueDrain_any (B : Int) _ _ lo rs X hX QB.out
    rw [hf.qu] at h
    have e : drainF lo (some f) = sortM l := sortM_congr hf.perm
    rw [e] at h
    exact h
  have HCn : Hid (∀ X, QuR X (.slice xa lo.length xc) (.slice ya rs.length yc) lo rs → Calls Try.prog 16 #[.agg #[.int .i64 (B : Int), .slice xa lo.length xc, .slice ya rs.length yc]] X fun e w' => e = .returned (.tuple #[.int .i64 (l.length : Int), .int .i64 0]) ∧ Below X.heap.size X w') := fun X hX => by
    have h := queueCount_any (B : Int) _ _ lo rs X hX QB.out
    rw [hf.qu] at h
    have e : lo.length + sumM f = l.length := by have := hf.perm.length_eq; rwa [List.length_append, sumM_flat] at this
    unfold CntP at h
    have e2 : countF lo (some f) = l.length := e
    rw [e2] at h
    exact h
  have HSL : Hid ((sortM l).length = l.length) := sortM_len l
  clear hq hb2 hf B1 C1
  go_upto_region 4 with fail
  generalize w2.alloc (.cells #[.int .i64 (B : Int), .slice xa lo.length xc, .slice ya rs.length yc] 25) = W2 at *
  generalize w2.heap.size = nb at *
  obtain ⟨q0, q1, q2⟩ := X2.out.cells
  have hs2 := B2.out.size
  go_wp2_with fail
  refine (HDr.out _ R2.out).mono ?_
  rintro e w3 ⟨v3, rfl, ho3, hb3⟩
  rw [okL_yes] at ho3
  have D3 : Hid (MlR w3 v3 (sortM l)) := MlR.ownd ho3
  obtain ⟨da, dc, rfl⟩ := D3.out.shape
  have B3 : Hid (Below w.heap.size w w3) := B2.out.trans (hb3.mono hs2)
  have X3 : Hid (QX w3 nb (.int .i64 (B : Int)) (.slice xa lo.length xc) (.slice ya rs.length yc)) := X2.out.below hb3 X2.out.lt
  have R3 : Hid (QuR w3 (.slice xa lo.length xc) (.slice ya rs.length yc) lo rs) := R2.out.below hb3 (Nat.le_refl _)
  have C3 : Hid (MlR w3 (.slice ca l.length cc) l) := C2.out.below hb3 (Nat.le_refl _)
  have hs3 := B3.out.size
  clear ho3 hb3 q0 q1 q2 X2 R2 C2 HDr
  obtain ⟨q0, q1, q2⟩ := X3.out.cells
  go_wp2_with fail
  refine (HCn.out _ R3.out).mono ?_
  rintro e w4 ⟨rfl, hb4⟩
  have B4 : Hid (Below w.heap.size w w4) := B3.out.trans (hb4.mono hs3)
  have X4 : Hid (QX w4 nb (.int .i64 (B : Int)) (.slice xa lo.length xc) (.slice ya rs.length yc)) := X3.out.below hb4 X3.out.lt
  have D4 : Hid (MlR w4 (.slice da (sortM l).length dc) (sortM l)) := D3.out.below hb4 (Nat.le_refl _)
  have C4 : Hid (MlR w4 (.slice ca l.length cc) l) := C3.out.below hb4 (Nat.le_refl _)
  have hs4 := B4.out.size
  clear hb4 q0 q1 q2 X3 R3 C3 D3 HCn
  go_wp2_with fail
  refine (sortedK_any _ l _ C4.out (by omega)).mono ?_
  rintro e w5 ⟨sa, sc, rfl, ho5, hb5⟩
  have S5 : Hid (MlR w5 (.slice sa (sortM l).length sc) (sortM l)) := MlR.ownd ho5
  have D5 : Hid (MlR w5 (.slice da (sortM l).length dc) (sortM l)) := D4.out.below hb5 (Nat.le_refl _)
  have B5 : Hid (Below w.heap.size w w5) := B4.out.trans (hb5.mono hs4)
  have X5 : Hid (QX w5 nb (.int .i64 (B : Int)) (.slice xa lo.length xc) (.slice ya rs.length yc)) := X4.out.below hb5 X4.out.lt
  have hs5 := B5.out.size
  clear ho5 hb5 X4 D4 C4
  have hlt : (most : Int) < (B : Int) := by omega
  have e1 : ((l.length : Int) == (l.length : Int)) = true := by simp
  have e2 : ((B : Int) == (B : Int)) = true := by simp
  have hsl : (sortM l).length ≤ l.length := Nat.le_of_eq HSL.out
  have HSM : Hid (∀ X, MlR X (.slice da (sortM l).length dc) (sortM l) → MlR X (.slice sa (sortM l).length sc) (sortM l) → Calls Try.prog 22 #[.slice da (sortM l).length dc, .slice sa (sortM l).length sc] X fun e w' => e = .returned (.bool true) ∧ Below X.heap.size X w') := fun X h1 h2 => sameMailK_yes _ _ _ X h1 h2
  generalize sortM l = sl at *
  by_cases hl0 : (0 : Int) < (l.length : Int)
  · have hll : ¬ l.length = 0 := by omega
    generalize l.length = ll at *
    go_wp2_with fail
    refine (HSM.out _ D5.out S5.out).mono ?_
    rintro e w6 ⟨rfl, hb6⟩
    have B6 : Hid (Below w.heap.size w w6) := B5.out.trans (hb6.mono hs5)
    clear hb6
    go_wp2_with fail
    go_ret
    exact ⟨ret_bool (by simp), B6.out⟩
  · obtain rfl : sl = [] := List.eq_nil_of_length_eq_zero (by omega)
    have hl9 : l.length = 0 := by omega
    generalize l.length = ll at *
    subst hl9
    go_wp2_with fail
    refine (HSM.out _ D5.out S5.out).mono ?_
    rintro e w6 ⟨rfl, hb6⟩
    have B6 : Hid (Below w.heap.size w w6) := B5.out.trans (hb6.mono hs5)
    obtain ⟨q0, q1, q2⟩ := (X5.out.below hb6 X5.out.lt).cells
    clear hb6
    go_wp2_with fail
    go_ret
    exact ⟨ret_bool (by simp), B6.out⟩

set_option maxHeartbeats 400000 in
set_option maxRecDepth 100000 in
theorem lifted (os : Os) (started : os.Started) (H : Type) (enc : TypeId × Value → H) :
    ReturnsInHanded {} Try.checked os 6 .any (Rows.queueKeepsSpec.pre6 enc Try.prog Try.f6 Rows.queueKeepsRow.domain false) (Rows.queueKeepsSpec.post enc Try.prog Try.f6 false true false false) := by
  refine returnsInHanded_of_change_sized (C := Try.checked) own started (by kernel_rfl) Try.func6
    (ChangeSpec.witness6 (enc := enc) (C := Try.checked) false ⟨#[], #[.int .i64 0, .slice none 0 0], []⟩ 8 (by kernel_rfl) (by kernel_rfl) (by kernel_rfl) (by kernel_rfl)) ?_
  intro W base args ds gs before hval0 hW _ hsz0 _
  have hval : ∀ (j : Nat) t v, Try.f6.params[j]? = some t → args[j]? = some v → Value.okWide Try.prog W .any base t v := hval0
  have hW' := hW
  obtain ⟨p, q, hA0, hV, rfl, hfz, hnd⟩ := hW
  have hA : DataW.TrodAll enc Try.prog W 0 (fun _ => true) true Try.f6.params.toList args.toList ds p := hA0
  have hsz : (DataW.weightsEach Try.prog (Try.f6.params.toList ++ Rows.queueKeepsSpec.plain.varTypes Try.prog) (ds ++ gs)).all (fun x => decide (x ≤ reachBytes)) = true := hsz0
  rw [Try.params6] at hA hval hsz
  obtain ⟨v0, vs0, d0, ds0, p0, q0, hargs, rfl, rfl, h0, r0⟩ := trodAll_cons hA
  obtain ⟨v1, vs1, d1, ds1, p1, q1, rfl, rfl, rfl, h1, r1⟩ := trodAll_cons r0
  obtain ⟨rfl, rfl, rfl⟩ := trodAll_nil r1
  obtain rfl : args = #[v0, v1] := by cases args; simp_all
  obtain ⟨rfl, rfl⟩ := trodVars_none hV
  have k0 := h0
  have lt0 : ∀ x ∈ p0, x.block < W.heap.size := by obtain ⟨m, hm⟩ := k0; exact DataW.trod_lt m _ _ _ hm
  have k1 := h1
  have lt1 : ∀ x ∈ p1, x.block < W.heap.size := by obtain ⟨m, hm⟩ := k1; exact DataW.trod_lt m _ _ _ hm
  have hw1 : ∀ m ∈ d1.weights Try.prog 40, m ≤ reachBytes := fun m hm => by simpa using List.all_eq_true.1 hsz _ (DataW.weights_mem_each (j := 1) (t := 40) rfl rfl m hm)
  obtain ⟨n0, rfl, _, _, wf0⟩ := open_int Try.underlying3 (hval 0 3 v0 rfl rfl) h0
  have hI0 := bounds_i64 wf0
  obtain ⟨es1, hR1, hB1, hL1⟩ := open_posts (okWide_slice Try.underlying40 (hval 1 40 v1 rfl rfl)) h1 hw1
  clear hA0 hval0
  refine (walk n0 v1 es1 W hI0 hR1 hB1 hL1).mono fun e W' ⟨he, bel⟩ => ?_
  subst he
  exact ⟨_, rfl, _, _, _, [], _, [], hW', trodAll_mk1 (shut_bool Try.underlying4 _), (trodAll_cons_mk (Below.trod laidOut (by kernel_rfl) (of_decide_eq_true (by kernel_rfl)) k0 bel lt0) (trodAll_cons_mk (Below.trod laidOut (by kernel_rfl) (of_decide_eq_true (by kernel_rfl)) k1 bel lt1) trodAll_mk0)), rfl, bel.frame _, fun h => by cases h⟩

theorem over : Rows.queueKeepsRow.holds Try.pinned (OpenSpec.ofChange Rows.queueKeepsSpec) :=
  OpenClaim.holds_of_wide 6 Try.f6 rfl rfl rfl rfl rfl rfl rfl ⟨rfl, rfl, rfl, rfl, rfl⟩ rfl rfl rfl rfl rfl (by kernel_rfl) Try.func6 (by kernel_rfl)
    (of_decide_eq_true (by kernel_rfl)) (by unfold Func.isWrapper; first | (rw [if_pos (by decide +kernel)]; kernel_rfl) | (rw [if_neg (by decide +kernel)]; exact ⟨rfl, rfl⟩))
    (fun os started H enc _ => lifted os started H enc)

/-- The statement. -/
theorem proved : Rows.QueueKeepsSaid := over
#print axioms proved
end Go.Proofs.Ytihghhmhgakkaaa.queueKeeps
