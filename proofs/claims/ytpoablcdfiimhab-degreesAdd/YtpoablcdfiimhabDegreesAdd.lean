/-
  For every number and ways the degrees of a graph that is made of them add up to its edges, forward and back (the law DegreesAdd returns true, and its arguments read as before); no condition.
-/
import Derived.Test.YtpoablcdfiimhabWayOpen
import Derived.Test.YtpoablcdfiimhabKeepSums
import Derived.Test.YtpoablcdfiimhabGraphBox
import Derived.WalkKit
import Derived.ProofKit
import Derived.OpenShut
import Derived.ShutString
import Derived.SizedLaws
import Derived.ChangeOld
import Derived.Below
namespace Go.Proofs.Ytpoablcdfiimhab.degreesAdd
open Go.ChangeShapes Go.WideShapes Go.ChangeAt Go.RowKit

theorem own : ownKnob Try.prog.godebug = none := by kernel_rfl
theorem laidOut : laidOutB Try.prog = true := by kernel_rfl

set_option maxHeartbeats 1000000 in
set_option maxRecDepth 100000 in
theorem walk (n0 : Int) (v1 : Value) (es1 : List Ed) (w : World) (hI0 : -9223372036854775808 ≤ n0 ∧ n0 ≤ 9223372036854775807) (hR1 : EdR w v1 es1) (hB1 : ∀ x ∈ es1, edB x) (hL1 : es1.length * 24 ≤ 140737488351232) :
    Calls Try.prog 3 #[.int .i64 n0, v1] w fun e w' => e = .returned (.bool true) ∧ Below w.heap.size w w' := by
  have _u := hI0
  clear _u
  have _u := hR1
  clear _u
  have _u := hB1
  clear _u
  have _u := hL1
  clear _u
  have HR : Hid (EdR w v1 es1) := hR1
  have HBW : Hid (∀ x ∈ es1, edB x) := hB1
  have hpb := pickF_bd n0 8 (by omega)
  have HM : Hid (∀ X, EdR X v1 es1 → Calls Try.prog 5 #[.int .i64 n0, v1, .int .i64 8] X fun e w' => ∃ v', e = .returned (.agg #[.int .i64 (1 + pickF n0 8), v']) ∧ w'.ownsRow X.heap.size 40 3 v' (madeL (1 + pickF n0 8) es1).length ((madeL (1 + pickF n0 8) es1).flatMap encE) ∧ Below X.heap.size X w') := fun X hX => made_any n0 8 _ es1 X hX HBW.out hI0 (by omega) (by omega)
  have F0 : Hid (faultE (1 + pickF n0 8) (madeL (1 + pickF n0 8) es1) = 0) := made_right (by omega) (by omega)
  have hEl := made_len (1 + pickF n0 8) es1
  have hn0 : 0 < 1 + pickF n0 8 := by omega
  have hn8 : 1 + pickF n0 8 ≤ 8 := by omega
  clear hpb hB1 hL1 hI0
  generalize madeL (1 + pickF n0 8) es1 = E at *
  generalize 1 + pickF n0 8 = N at *
  obtain ⟨m, rfl⟩ : ∃ m : Nat, N = m := ⟨N.toNat, by omega⟩
  have F1 : Hid (faultE m (sortE (E.map turnE)) = 0) := turn_right F0.out
  have hTl : (sortE (E.map turnE)).length = E.length := by rw [sortE_len, List.length_map]
  have CR0 : Hid (∀ X v, EdR X v E → Calls Try.prog 6 #[.agg #[.int .i64 m, v]] X fun e w' => ∃ v', e = .returned (.tuple #[.agg #[.int .i64 m, v'], .int .i64 0]) ∧ w'.ownsRow X.heap.size 40 3 v' (sortE (E.map turnE)).length ((sortE (E.map turnE)).flatMap encE) ∧ Below X.heap.size X w') := fun X v hX => by
    have := reverse_any v E m X hX
    rwa [F0.out, okN_yes, okL_yes] at this
  have CD0 : Hid (∀ X v, EdR X v E → Calls Try.prog 7 #[.agg #[.int .i64 m, v]] X fun e w' => ∃ v', e = .returned (.tuple #[v', .int .i64 0]) ∧ w'.ownsRow X.heap.size 3 1 v' (degL m E).length ((degL m E).flatMap encI) ∧ Below X.heap.size X w') := fun X v hX => by
    have := degrees_any v E m X hX
    rwa [F0.out, okL_yes, Int.toNat_natCast] at this
  have CD1 : Hid (∀ X v, EdR X v (sortE (E.map turnE)) → Calls Try.prog 7 #[.agg #[.int .i64 m, v]] X fun e w' => ∃ v', e = .returned (.tuple #[v', .int .i64 0]) ∧ w'.ownsRow X.heap.size 3 1 v' (degL m (sortE (E.map turnE))).length ((degL m (sortE (E.map turnE))).flatMap encI) ∧ Below X.heap.size X w') := fun X v hX => by
    have := degrees_any v (sortE (E.map turnE)) m X hX
    rwa [F1.out, okL_yes, Int.toNat_natCast] at this
  have CH : Hid (∀ X v (k : Nat), k < m → EdR X v E → Calls Try.prog 8 #[.agg #[.int .i64 m, v], .int .i64 k] X fun e w' => ∃ v', e = .returned (.tuple #[v', .int .i64 0]) ∧ (∃ a c L, v' = .slice a L c ∧ (L : Int) = degE E k) ∧ Below X.heap.size X w') := fun X v k hk hX => by
    have h1 := hops_any v E m k X hX
    rw [errH_ok F0.out (by simp [insB]; omega), okL_yes] at h1
    refine h1.mono ?_
    rintro e w' ⟨v', he, ho, hb⟩
    obtain ⟨a, c, ev, _⟩ := RowK.own encH_len ho
    exact ⟨v', he, ⟨a, c, _, ev, hops_deg E k⟩, hb⟩
  have SA : Hid (degSum E m = E.length) := degSum_all F0.out
  have SB : Hid (degSum (sortE (E.map turnE)) m = E.length) := by
    show _ = _
    rw [degSum_all F1.out, hTl]
  have HTL : Hid ((sortE (E.map turnE)).length = E.length) := hTl
  clear F0 F1 hTl
  generalize sortE (E.map turnE) = TE at *
  obtain ⟨a, cap, rfl⟩ := hR1.shape
  clear hR1
  go_enter Try.func3, Try.ntmps3
  go_wp2_with fail
  refine (HM.out _ HR.out).mono ?_
  rintro e w1 ⟨va, rfl, hown1, hb1⟩
  have R1 : Hid (EdR w1 va E) := RowK.own encE_len hown1
  obtain ⟨aa, ac, rfl⟩ := R1.out.shape
  have G1 : Hid (GB (w1.alloc (.cells #[.int .i64 m, .slice aa E.length ac] 25)) w1.heap.size m (.slice aa E.length ac) E) := GB.new m R1.out
  have B1 : Hid (Below w.heap.size w (w1.alloc (.cells #[.int .i64 m, .slice aa E.length ac] 25))) := hb1.alloc hb1.size _
  clear hown1 hb1 HM R1
  go_wp2_with fail
  refine (CR0.out _ _ G1.out.rd).mono ?_
  rintro e w2 ⟨vb, rfl, hown2, hb2⟩
  have R2 : Hid (EdR w2 vb TE) := RowK.own encE_len hown2
  obtain ⟨ba, bc, rfl⟩ := R2.out.shape
  have hb2' := below_alloc w2 (.cells #[.int .i64 m, .slice ba TE.length bc] 25)
  have G2 : Hid (GB (w2.alloc (.cells #[.int .i64 m, .slice ba TE.length bc] 25)) w1.heap.size m (.slice aa E.length ac) E) := (G1.out.go hb2).go hb2'
  have H2 : Hid (GB (w2.alloc (.cells #[.int .i64 m, .slice ba TE.length bc] 25)) w2.heap.size m (.slice ba TE.length bc) TE) := GB.new m R2.out
  have B2 : Hid (Below w.heap.size w (w2.alloc (.cells #[.int .i64 m, .slice ba TE.length bc] 25))) := (B1.out.trans (hb2.mono B1.out.size)).alloc (Nat.le_trans B1.out.size hb2.size) _
  have d0 := G2.out.c0
  have d1 := G2.out.c1
  clear hown2 hb2 hb2' R2 G1 B1 CR0
  go_wp2_with fail
  clear d0 d1
  generalize w2.alloc (.cells #[.int .i64 m, .slice ba TE.length bc] 25) = x2 at *
  refine (CD0.out _ _ G2.out.rd).mono ?_
  rintro e w3 ⟨vc, rfl, hown3, hb3⟩
  have R3 : Hid (InR w3 vc (degL m E)) := RowK.own encI_len hown3
  obtain ⟨ca, cc, rfl⟩ := R3.out.shape
  have G3 : Hid (GB w3 w1.heap.size m (.slice aa E.length ac) E) := G2.out.go hb3
  have H3 : Hid (GB w3 w2.heap.size m (.slice ba TE.length bc) TE) := H2.out.go hb3
  have B3 : Hid (Below w.heap.size w w3) := B2.out.trans (hb3.mono B2.out.size)
  have d0 := H3.out.c0
  have d1 := H3.out.c1
  clear hown3 hb3 G2 H2 B2 CD0
  go_wp2_with fail
  clear d0 d1
  refine (CD1.out _ _ H3.out.rd).mono ?_
  rintro e wl ⟨vd, rfl, hown4, hb4⟩
  have RB : Hid (InR wl vd (degL m TE)) := RowK.own encI_len hown4
  obtain ⟨da, dc, rfl⟩ := RB.out.shape
  have RA : Hid (InR wl (.slice ca (degL m E).length cc) (degL m E)) := R3.out.below hb4 (Nat.le_refl _)
  have GL : Hid (GB wl w1.heap.size m (.slice aa E.length ac) E) := G3.out.go hb4
  have BL : Hid (Below w.heap.size w wl) := B3.out.trans (hb4.mono B3.out.size)
  have hla : (degL m E).length = m := degL_len m E
  have hlb : (degL m TE).length = m := degL_len m TE
  have d0 := GL.out.c0
  have d1 := GL.out.c1
  have hmm : ((m : Int) != (m : Int)) = false := by simp
  clear hown4 hb4 R3 G3 H3 B3 CD1
  rw [hlb]
  rw [hla] at RA ⊢
  rw [hlb] at RB
  go_wp2_with fail
  clear d0 d1
  go_loopw [12, 13, 14] (fun x y i wr => ∃ k : Nat, k ≤ m ∧ i = .int .i64 k ∧ x = .int .i64 (degSum E k) ∧ y = .int .i64 (degSum TE k) ∧ Below wl.heap.size wl wr) (fun _ _ i _ => m - (intOf i).toNat)
  case atStart => exact ⟨0, by omega, rfl, rfl, rfl, Below.refl _ _⟩
  case round =>
    obtain ⟨k, hk, rfl, rfl, rfl, hbel⟩ := hrel
    have GR : Hid (GB wr w1.heap.size m (.slice aa E.length ac) E) := GL.out.go hbel
    have HB : Hid (Below wl.heap.size wl wr) := hbel
    have d0 := GR.out.c0
    have d1 := GR.out.c1
    clear hbel
    by_cases hlt : k < m
    · have hk1 : (k : Int) < (m : Int) := by omega
      have p0 : (0 : Int) ≤ (k : Int) := by omega
      go_wp2_with fail
      refine (CH.out _ _ k hlt GR.out.rd).mono ?_
      rintro e w5 ⟨vh, rfl, ⟨ha, hc, L, rfl, hL⟩, hb5⟩
      have B5 : Hid (Below wl.heap.size wl w5) := HB.out.trans (hb5.mono HB.out.size)
      obtain ⟨qa, oa, ka, e1, _, hca, _, hva⟩ := InR.at (RA.out.below B5.out (Nat.le_refl _)) (by rw [hla]; omega)
      rw [hla] at e1
      injection e1 with e1 _ e3
      subst e1 e3
      obtain ⟨qb, ob, kb, e1, _, hcb, _, hvb⟩ := InR.at (RB.out.below B5.out (Nat.le_refl _)) (by rw [hlb]; omega)
      rw [hlb] at e1
      injection e1 with e1 _ e3
      subst e1 e3
      have g1 := hva k _ (degL_at hlt)
      have g2 := hvb k _ (degL_at hlt)
      have bA := degSum_le E (k + 1)
      have bB := degSum_le TE (k + 1)
      have eA : degSum E (k + 1) = degSum E k + degE E k := rfl
      have eB : degSum TE (k + 1) = degSum TE k + degE TE k := rfl
      have hTl := HTL.out
      have sA : Hid (degSum E (k + 1) = degSum E k + degE E k) := eA
      have sB : Hid (degSum TE (k + 1) = degSum TE k + degE TE k) := eB
      have wA : IntKind.i64.wrap (degSum E k + degE E k) = degSum E k + degE E k := wrap_id64 (by omega) (by omega)
      have wB : IntKind.i64.wrap (degSum TE k + degE TE k) = degSum TE k + degE TE k := wrap_id64 (by omega) (by omega)
      have hne : ((L : Int) != degE E k) = false := by rw [hL]; simp
      unfold maxLen at hca hcb
      clear hva hvb bA bB eA eB hTl hL hb5 d0 d1
      generalize degE E k = dA at *
      generalize degE TE k = dB at *
      generalize degSum E k = xA at *
      generalize degSum TE k = xB at *
      go_wp2_with fail
      go_roundw
      case rel => exact ⟨k + 1, by omega, by go_num, by rw [sA.out], by rw [sB.out], B5.out⟩
      case measure => simp [intOf]; omega
    · have ek : k = m := by omega
      subst ek
      have SA' := SA.out
      have SB' := SB.out
      rw [SA', SB']
      have hee : ((E.length : Int) == (E.length : Int)) = true := by simp
      clear SA' SB'
      go_wp2_with fail
      go_ret
      exact ⟨ret_bool (by simp), BL.out.trans (HB.out.mono BL.out.size)⟩

set_option maxHeartbeats 400000 in
set_option maxRecDepth 100000 in
theorem lifted (os : Os) (started : os.Started) (H : Type) (enc : TypeId × Value → H) :
    ReturnsInHanded {} Try.checked os 3 .any (Rows.degreesAddSpec.pre6 enc Try.prog Try.f3 Rows.degreesAddRow.domain false) (Rows.degreesAddSpec.post enc Try.prog Try.f3 false true false false) := by
  refine returnsInHanded_of_change_sized (C := Try.checked) own started (by kernel_rfl) Try.func3
    (ChangeSpec.witness6 (enc := enc) (C := Try.checked) false ⟨#[], #[.int .i64 0, .slice none 0 0], []⟩ 8 (by kernel_rfl) (by kernel_rfl) (by kernel_rfl) (by kernel_rfl)) ?_
  intro W base args ds gs before hval0 hW _ hsz0 _
  have hval : ∀ (j : Nat) t v, Try.f3.params[j]? = some t → args[j]? = some v → Value.okWide Try.prog W .any base t v := hval0
  have hW' := hW
  obtain ⟨p, q, hA0, hV, rfl, hfz, hnd⟩ := hW
  have hA : DataW.TrodAll enc Try.prog W 0 (fun _ => true) true Try.f3.params.toList args.toList ds p := hA0
  have hsz : (DataW.weightsEach Try.prog (Try.f3.params.toList ++ Rows.degreesAddSpec.plain.varTypes Try.prog) (ds ++ gs)).all (fun x => decide (x ≤ reachBytes)) = true := hsz0
  rw [Try.params3] at hA hval hsz
  obtain ⟨v0, vs0, d0, ds0, p0, q0, hargs, rfl, rfl, h0, r0⟩ := trodAll_cons hA
  obtain ⟨v1, vs1, d1, ds1, p1, q1, rfl, rfl, rfl, h1, r1⟩ := trodAll_cons r0
  obtain ⟨rfl, rfl, rfl⟩ := trodAll_nil r1
  obtain rfl : args = #[v0, v1] := by cases args; simp_all
  obtain ⟨rfl, rfl⟩ := trodVars_none hV
  have k0 := h0
  have lt0 : ∀ x ∈ p0, x.block < W.heap.size := by obtain ⟨m, hm⟩ := k0; exact DataW.trod_lt m _ _ _ hm
  have k1 := h1
  have lt1 : ∀ x ∈ p1, x.block < W.heap.size := by obtain ⟨m, hm⟩ := k1; exact DataW.trod_lt m _ _ _ hm
  have hw1 : ∀ m ∈ d1.weights Try.prog 22, m ≤ reachBytes := fun m hm => by simpa using List.all_eq_true.1 hsz _ (DataW.weights_mem_each (j := 1) (t := 22) rfl rfl m hm)
  obtain ⟨n0, rfl, _, _, wf0⟩ := open_int Try.underlying3 (hval 0 3 v0 rfl rfl) h0
  have hI0 := bounds_i64 wf0
  obtain ⟨es1, hR1, hB1, hL1⟩ := open_ways (okWide_slice Try.underlying22 (hval 1 22 v1 rfl rfl)) h1 hw1
  clear hA0 hval0
  refine (walk n0 v1 es1 W hI0 hR1 hB1 hL1).mono fun e W' ⟨he, bel⟩ => ?_
  subst he
  exact ⟨_, rfl, _, _, _, [], _, [], hW', trodAll_mk1 (shut_bool Try.underlying4 _), (trodAll_cons_mk (Below.trod laidOut (by kernel_rfl) (of_decide_eq_true (by kernel_rfl)) k0 bel lt0) (trodAll_cons_mk (Below.trod laidOut (by kernel_rfl) (of_decide_eq_true (by kernel_rfl)) k1 bel lt1) trodAll_mk0)), rfl, bel.frame _, fun h => by cases h⟩

theorem over : Rows.degreesAddRow.holds Try.pinned (OpenSpec.ofChange Rows.degreesAddSpec) :=
  OpenClaim.holds_of_wide 3 Try.f3 rfl rfl rfl rfl rfl rfl rfl ⟨rfl, rfl, rfl, rfl, rfl⟩ rfl rfl rfl rfl rfl (by kernel_rfl) Try.func3 (by kernel_rfl)
    (of_decide_eq_true (by kernel_rfl)) (by unfold Func.isWrapper; first | (rw [if_pos (by decide +kernel)]; kernel_rfl) | (rw [if_neg (by decide +kernel)]; exact ⟨rfl, rfl⟩))
    (fun os started H enc _ => lifted os started H enc)

/-- The statement. -/
theorem proved : Rows.DegreesAddSaid := over
#print axioms proved
end Go.Proofs.Ytpoablcdfiimhab.degreesAdd
