/-
  For every number and ways a graph that is made of them, reversed twice, is as it was, in order (the law ReverseTwice returns true, and its arguments read as before); no condition.
-/
import Derived.Test.YtpoablcdfiimhaaWayOpen
import Derived.Test.YtpoablcdfiimhaaKeepGraph
import Derived.Test.YtpoablcdfiimhaaSameGraphK
import Derived.Test.YtpoablcdfiimhaaGraphBox
import Derived.WalkKit
import Derived.ProofKit
import Derived.OpenShut
import Derived.ShutString
import Derived.SizedLaws
import Derived.ChangeOld
import Derived.Below
namespace Go.Proofs.Ytpoablcdfiimhaa.reverseTwice
open Go.ChangeShapes Go.WideShapes Go.ChangeAt Go.RowKit

theorem own : ownKnob Try.prog.godebug = none := by kernel_rfl
theorem laidOut : laidOutB Try.prog = true := by kernel_rfl

set_option maxHeartbeats 1000000 in
set_option maxRecDepth 100000 in
theorem walk (n0 : Int) (v1 : Value) (es1 : List Ed) (w : World) (hI0 : -9223372036854775808 ≤ n0 ∧ n0 ≤ 9223372036854775807) (hR1 : EdR w v1 es1) (hB1 : ∀ x ∈ es1, edB x) (hL1 : es1.length * 24 ≤ 140737488351232) :
    Calls Try.prog 8 #[.int .i64 n0, v1] w fun e w' => e = .returned (.bool true) ∧ Below w.heap.size w w' := by
  have _u := hI0
  clear _u
  have _u := hR1
  clear _u
  have _u := hB1
  clear _u
  have _u := hL1
  clear _u
  have HR : Hid (EdR w v1 es1) := hR1
  have HBW : Hid (∀ x ∈ es1, edB x) := hB1
  have hpb := pickF_bd n0 8 (by omega)
  have HM : Hid (∀ X, EdR X v1 es1 → Calls Try.prog 23 #[.int .i64 n0, v1, .int .i64 8] X fun e w' => ∃ v', e = .returned (.agg #[.int .i64 (1 + pickF n0 8), v']) ∧ w'.ownsRow X.heap.size 47 3 v' (madeL (1 + pickF n0 8) es1).length ((madeL (1 + pickF n0 8) es1).flatMap encE) ∧ Below X.heap.size X w') := fun X hX => made_any n0 8 _ es1 X hX HBW.out hI0 (by omega) (by omega)
  have F0 : Hid (faultE (1 + pickF n0 8) (madeL (1 + pickF n0 8) es1) = 0) := made_right (by omega) (by omega)
  clear hpb hB1 hL1 hI0
  generalize madeL (1 + pickF n0 8) es1 = E at *
  generalize 1 + pickF n0 8 = N at *
  have F1 : Hid (faultE N (sortE (E.map turnE)) = 0) := turn_right F0.out
  have TT : Hid (sortE ((sortE (E.map turnE)).map turnE) = sortE E) := turn_turn E
  have CR0 : Hid (∀ X v, EdR X v E → Calls Try.prog 15 #[.agg #[.int .i64 N, v]] X fun e w' => ∃ v', e = .returned (.tuple #[.agg #[.int .i64 N, v'], .int .i64 0]) ∧ w'.ownsRow X.heap.size 47 3 v' (sortE (E.map turnE)).length ((sortE (E.map turnE)).flatMap encE) ∧ Below X.heap.size X w') := fun X v hX => by
    have := reverse_any v E N X hX
    rwa [F0.out, okN_yes, okL_yes] at this
  have CR1 : Hid (∀ X v, EdR X v (sortE (E.map turnE)) → Calls Try.prog 15 #[.agg #[.int .i64 N, v]] X fun e w' => ∃ v', e = .returned (.tuple #[.agg #[.int .i64 N, v'], .int .i64 0]) ∧ w'.ownsRow X.heap.size 47 3 v' (sortE E).length ((sortE E).flatMap encE) ∧ Below X.heap.size X w') := fun X v hX => by
    have := reverse_any v (sortE (E.map turnE)) N X hX
    rwa [F1.out, okN_yes, okL_yes, TT.out] at this
  have CS : Hid (∀ X v, EdR X v E → Calls Try.prog 12 #[.agg #[.int .i64 N, v]] X fun e w' => ∃ v', e = .returned (.tuple #[.agg #[.int .i64 N, v'], .int .i64 0]) ∧ w'.ownsRow X.heap.size 47 3 v' (sortE E).length ((sortE E).flatMap encE) ∧ Below X.heap.size X w') := fun X v hX => by
    have := sorted_any v E N X hX
    rwa [F0.out, okN_yes, okL_yes] at this
  clear F0 F1 TT
  generalize sortE (E.map turnE) = TE at *
  generalize sortE E = SE at *
  obtain ⟨a, cap, rfl⟩ := hR1.shape
  clear hR1
  go_enter Try.func8, Try.ntmps8
  go_wp2_with fail
  refine (HM.out _ HR.out).mono ?_
  rintro e w1 ⟨va, rfl, hown1, hb1⟩
  have R1 : Hid (EdR w1 va E) := RowK.own encE_len hown1
  obtain ⟨aa, ac, rfl⟩ := R1.out.shape
  have G1 : Hid (GB (w1.alloc (.cells #[.int .i64 N, .slice aa E.length ac] 24)) w1.heap.size N (.slice aa E.length ac) E) := GB.new N R1.out
  have B1 : Hid (Below w.heap.size w (w1.alloc (.cells #[.int .i64 N, .slice aa E.length ac] 24))) := hb1.alloc hb1.size _
  clear hown1 hb1 HM R1
  go_wp2_with fail
  refine (CR0.out _ _ G1.out.rd).mono ?_
  rintro e w2 ⟨vb, rfl, hown2, hb2⟩
  have R2 : Hid (EdR w2 vb TE) := RowK.own encE_len hown2
  obtain ⟨ba, bc, rfl⟩ := R2.out.shape
  have hb2' := below_alloc w2 (.cells #[.int .i64 N, .slice ba TE.length bc] 24)
  have G2 : Hid (GB (w2.alloc (.cells #[.int .i64 N, .slice ba TE.length bc] 24)) w1.heap.size N (.slice aa E.length ac) E) := (G1.out.go hb2).go hb2'
  have H2 : Hid (GB (w2.alloc (.cells #[.int .i64 N, .slice ba TE.length bc] 24)) w2.heap.size N (.slice ba TE.length bc) TE) := GB.new N R2.out
  have B2 : Hid (Below w.heap.size w (w2.alloc (.cells #[.int .i64 N, .slice ba TE.length bc] 24))) := (B1.out.trans (hb2.mono B1.out.size)).alloc (Nat.le_trans B1.out.size hb2.size) _
  clear hown2 hb2 hb2' R2 G1 B1 CR0
  go_wp2_with fail
  generalize w2.alloc (.cells #[.int .i64 N, .slice ba TE.length bc] 24) = x2 at *
  refine (CR1.out _ _ H2.out.rd).mono ?_
  rintro e w3 ⟨vc, rfl, hown3, hb3⟩
  have R3 : Hid (EdR w3 vc SE) := RowK.own encE_len hown3
  obtain ⟨ca, cc, rfl⟩ := R3.out.shape
  have hb3' := below_alloc w3 (.cells #[.int .i64 N, .slice ca SE.length cc] 24)
  have G3 : Hid (GB (w3.alloc (.cells #[.int .i64 N, .slice ca SE.length cc] 24)) w1.heap.size N (.slice aa E.length ac) E) := (G2.out.go hb3).go hb3'
  have H3 : Hid (GB (w3.alloc (.cells #[.int .i64 N, .slice ca SE.length cc] 24)) w3.heap.size N (.slice ca SE.length cc) SE) := GB.new N R3.out
  have B3 : Hid (Below w.heap.size w (w3.alloc (.cells #[.int .i64 N, .slice ca SE.length cc] 24))) := (B2.out.trans (hb3.mono B2.out.size)).alloc (Nat.le_trans B2.out.size hb3.size) _
  have d0 := G3.out.c0
  have d1 := G3.out.c1
  clear hown3 hb3 hb3' R3 G2 H2 B2 CR1
  go_wp2_with fail
  clear d0 d1
  generalize hx3 : w3.alloc (.cells #[.int .i64 N, .slice ca SE.length cc] 24) = x3 at *
  refine (CS.out _ _ G3.out.rd).mono ?_
  rintro e w4 ⟨vd, rfl, hown4, hb4⟩
  have R4 : Hid (EdR w4 vd SE) := RowK.own encE_len hown4
  obtain ⟨sa, sc, rfl⟩ := R4.out.shape
  have hb4' := below_alloc w4 (.cells #[.int .i64 N, .slice sa SE.length sc] 24)
  have G4 : Hid (GB (w4.alloc (.cells #[.int .i64 N, .slice sa SE.length sc] 24)) w1.heap.size N (.slice aa E.length ac) E) := (G3.out.go hb4).go hb4'
  have H4 : Hid (GB (w4.alloc (.cells #[.int .i64 N, .slice sa SE.length sc] 24)) w3.heap.size N (.slice ca SE.length cc) SE) := (H3.out.go hb4).go hb4'
  have I4 : Hid (GB (w4.alloc (.cells #[.int .i64 N, .slice sa SE.length sc] 24)) w4.heap.size N (.slice sa SE.length sc) SE) := GB.new N R4.out
  have B4 : Hid (Below w.heap.size w (w4.alloc (.cells #[.int .i64 N, .slice sa SE.length sc] 24))) := (B3.out.trans (hb4.mono B3.out.size)).alloc (Nat.le_trans B3.out.size hb4.size) _
  have d0 := H4.out.c0
  have d1 := H4.out.c1
  have d2 := I4.out.c0
  have d3 := I4.out.c1
  have h00 : ((0 : Int) == 0) = true := rfl
  clear hown4 hb4 hb4' R4 G3 H3 B3 CS
  go_wp2_with fail
  clear d0 d1 d2 d3
  generalize hx4 : w4.alloc (.cells #[.int .i64 N, .slice sa SE.length sc] 24) = x4 at *
  refine (sameGraphK_yes _ _ SE N _ H4.out.rd I4.out.rd).mono ?_
  rintro e w5 ⟨rfl, hb5⟩
  have G5 := (G4.out.go hb5).c0
  have H5 := (H4.out.go hb5).c0
  have hNN : (N == N) = true := by simp
  have B5 : Hid (Below w.heap.size w w5) := B4.out.trans (hb5.mono B4.out.size)
  clear hb5 G4 H4 I4 B4
  go_wp2_with fail
  go_ret
  exact ⟨ret_bool (by simp), B5.out⟩

set_option maxHeartbeats 400000 in
set_option maxRecDepth 100000 in
theorem lifted (os : Os) (started : os.Started) (H : Type) (enc : TypeId × Value → H) :
    ReturnsInHanded {} Try.checked os 8 .any (Rows.reverseTwiceSpec.pre6 enc Try.prog Try.f8 Rows.reverseTwiceRow.domain false) (Rows.reverseTwiceSpec.post enc Try.prog Try.f8 false true false false) := by
  refine returnsInHanded_of_change_sized (C := Try.checked) own started (by kernel_rfl) Try.func8
    (ChangeSpec.witness6 (enc := enc) (C := Try.checked) false ⟨#[], #[.int .i64 0, .slice none 0 0], []⟩ 8 (by kernel_rfl) (by kernel_rfl) (by kernel_rfl) (by kernel_rfl)) ?_
  intro W base args ds gs before hval0 hW _ hsz0 _
  have hval : ∀ (j : Nat) t v, Try.f8.params[j]? = some t → args[j]? = some v → Value.okWide Try.prog W .any base t v := hval0
  have hW' := hW
  obtain ⟨p, q, hA0, hV, rfl, hfz, hnd⟩ := hW
  have hA : DataW.TrodAll enc Try.prog W 0 (fun _ => true) true Try.f8.params.toList args.toList ds p := hA0
  have hsz : (DataW.weightsEach Try.prog (Try.f8.params.toList ++ Rows.reverseTwiceSpec.plain.varTypes Try.prog) (ds ++ gs)).all (fun x => decide (x ≤ reachBytes)) = true := hsz0
  rw [Try.params8] at hA hval hsz
  obtain ⟨v0, vs0, d0, ds0, p0, q0, hargs, rfl, rfl, h0, r0⟩ := trodAll_cons hA
  obtain ⟨v1, vs1, d1, ds1, p1, q1, rfl, rfl, rfl, h1, r1⟩ := trodAll_cons r0
  obtain ⟨rfl, rfl, rfl⟩ := trodAll_nil r1
  obtain rfl : args = #[v0, v1] := by cases args; simp_all
  obtain ⟨rfl, rfl⟩ := trodVars_none hV
  have k0 := h0
  have lt0 : ∀ x ∈ p0, x.block < W.heap.size := by obtain ⟨m, hm⟩ := k0; exact DataW.trod_lt m _ _ _ hm
  have k1 := h1
  have lt1 : ∀ x ∈ p1, x.block < W.heap.size := by obtain ⟨m, hm⟩ := k1; exact DataW.trod_lt m _ _ _ hm
  have hw1 : ∀ m ∈ d1.weights Try.prog 41, m ≤ reachBytes := fun m hm => by simpa using List.all_eq_true.1 hsz _ (DataW.weights_mem_each (j := 1) (t := 41) rfl rfl m hm)
  obtain ⟨n0, rfl, _, _, wf0⟩ := open_int Try.underlying3 (hval 0 3 v0 rfl rfl) h0
  have hI0 := bounds_i64 wf0
  obtain ⟨es1, hR1, hB1, hL1⟩ := open_ways (okWide_slice Try.underlying41 (hval 1 41 v1 rfl rfl)) h1 hw1
  clear hA0 hval0
  refine (walk n0 v1 es1 W hI0 hR1 hB1 hL1).mono fun e W' ⟨he, bel⟩ => ?_
  subst he
  exact ⟨_, rfl, _, _, _, [], _, [], hW', trodAll_mk1 (shut_bool Try.underlying4 _), (trodAll_cons_mk (Below.trod laidOut (by kernel_rfl) (of_decide_eq_true (by kernel_rfl)) k0 bel lt0) (trodAll_cons_mk (Below.trod laidOut (by kernel_rfl) (of_decide_eq_true (by kernel_rfl)) k1 bel lt1) trodAll_mk0)), rfl, bel.frame _, fun h => by cases h⟩

theorem over : Rows.reverseTwiceRow.holds Try.pinned (OpenSpec.ofChange Rows.reverseTwiceSpec) :=
  OpenClaim.holds_of_wide 8 Try.f8 rfl rfl rfl rfl rfl rfl rfl ⟨rfl, rfl, rfl, rfl, rfl⟩ rfl rfl rfl rfl rfl (by kernel_rfl) Try.func8 (by kernel_rfl)
    (of_decide_eq_true (by kernel_rfl)) (by unfold Func.isWrapper; first | (rw [if_pos (by decide +kernel)]; kernel_rfl) | (rw [if_neg (by decide +kernel)]; exact ⟨rfl, rfl⟩))
    (fun os started H enc _ => lifted os started H enc)

/-- The statement. -/
theorem proved : Rows.ReverseTwiceSaid := over
#print axioms proved
end Go.Proofs.Ytpoablcdfiimhaa.reverseTwice
