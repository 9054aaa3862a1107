/-
  For every number, ways and vertex what is reached in a graph that is made of them reaches on (the law ReachGoes returns true, and its arguments read as before); no condition.
-/
import Derived.Test.YtankibadiomkkabWayOpen
import Derived.Test.YtankibadiomkkabKeepMade
import Derived.Test.YtankibadiomkkabKeepRows
import Derived.Test.YtankibadiomkkabFaceReach
import Derived.Test.YtankibadiomkkabBoxMem
import Derived.WalkKit
import Derived.ProofKit
import Derived.OpenShut
import Derived.ShutString
import Derived.SizedLaws
import Derived.ChangeOld
import Derived.Below
namespace Go.Proofs.Ytankibadiomkkab.reachGoes
set_option maxRecDepth 100000
open Go.ChangeShapes Go.WideShapes Go.ChangeAt Go.RowKit

theorem own : ownKnob Try.prog.godebug = none := by kernel_rfl
theorem laidOut : laidOutB Try.prog = true := by kernel_rfl

set_option maxHeartbeats 4000000 in
set_option maxRecDepth 100000 in
theorem walk (n0 : Int) (v1 : Value) (es1 : List Ed) (n2 : Int) (w : World) (hI0 : -9223372036854775808 ≤ n0 ∧ n0 ≤ 9223372036854775807) (hR1 : EdR w v1 es1) (hB1 : ∀ x ∈ es1, edB x) (hL1 : es1.length * 24 ≤ 140737488351232) (hI2 : -9223372036854775808 ≤ n2 ∧ n2 ≤ 9223372036854775807) :
    Calls Try.prog 4 #[.int .i64 n0, v1, .int .i64 n2] w fun e w' => e = .returned (.bool true) ∧ Below w.heap.size w w' := by
  have _u := hI0
  clear _u
  have _u := hR1
  clear _u
  have _u := hB1
  clear _u
  have _u := hL1
  clear _u
  have _u := hI2
  clear _u
  have HR : Hid (EdR w v1 es1) := hR1
  have HBW : Hid (∀ x ∈ es1, edB x) := hB1
  have hpb := pickF_bd n0 8 (by omega)
  have HM : Hid (∀ X, EdR X v1 es1 → Calls Try.prog 5 #[.int .i64 n0, v1, .int .i64 8] X fun e w' => ∃ v', e = .returned (.agg #[.int .i64 (1 + pickF n0 8), v']) ∧ w'.ownsRow X.heap.size 37 3 v' (madeL (1 + pickF n0 8) es1).length ((madeL (1 + pickF n0 8) es1).flatMap encE) ∧ Below X.heap.size X w') := fun X hX => made_any n0 8 _ es1 X hX HBW.out hI0 (by omega) (by omega)
  have F0 : Hid (faultE (1 + pickF n0 8) (madeL (1 + pickF n0 8) es1) = 0) := made_right (by omega) (by omega)
  have hEl := made_len (1 + pickF n0 8) es1
  have hn0 : 0 < 1 + pickF n0 8 := by omega
  have hn8 : 1 + pickF n0 8 ≤ 8 := by omega
  clear hpb hB1 hL1 hI0
  generalize madeL (1 + pickF n0 8) es1 = E at *
  generalize 1 + pickF n0 8 = N at *
  obtain ⟨m, rfl⟩ : ∃ m : Nat, N = m := ⟨N.toNat, by omega⟩
  have hm0 : 0 < m := by omega
  have HG : Hid (InG m E) := in_fault F0.out
  have CP : Hid (∀ X, Calls Try.prog 7 #[.int .i64 n2, .int .i64 m] X fun e w' => e = .returned (.int .i64 (pickF n2 m)) ∧ w' = X) := fun X => picked_any n2 m X hI2.1 hI2.2 hn0 (by omega)
  have CR : Hid (∀ X v (k : Nat), k < m → EdR X v E → Calls Try.prog 8 #[.agg #[.int .i64 m, v], .int .i64 k] X fun e w' => ∃ v', e = .returned (.tuple #[v', .int .i64 0]) ∧ BlR w' v' (reachF m E k) ∧ Below X.heap.size X w') := fun X v k hk hX => by
    have h1 := pReach_any v E m k X hX
    rw [errV_ok F0.out ⟨by omega, by omega⟩, Int.toNat_natCast] at h1
    exact h1.mono (fun e w' ⟨v', h2, h3, h4⟩ => ⟨v', h2, BlR.ownd h3, h4⟩)
  have hpv := pickF_bd n2 m hn0
  generalize pickF n2 m = pv0 at *
  obtain ⟨pv, rfl⟩ : ∃ pv : Nat, pv0 = pv := ⟨pv0.toNat, by omega⟩
  have hpm : pv < m := by omega
  have HLA : Hid ((reachF m E pv).length = m) := reach_len HG.out ⟨by omega, by omega⟩
  have HAV : Hid (atB (reachF m E pv) (pv : Int) = true) := (reach_at HG.out ⟨by omega, by omega⟩ ⟨by omega, by omega⟩).2 (Rch.refl _ _)
  have HAE : Hid (∀ e ∈ E, atB (reachF m E pv) e.1 = true → atB (reachF m E pv) e.2.1 = true) := fun e he h => by
    obtain ⟨g1, g2, g3, g4, _⟩ := HG.out e he
    exact (reach_at HG.out ⟨by omega, by omega⟩ ⟨g3, g4⟩).2 (((reach_at HG.out ⟨by omega, by omega⟩ ⟨g1, g2⟩).1 h).step he)
  have HAT : Hid (∀ u c : Nat, u < m → c < m → atB (reachF m E pv) (u : Int) = true → atB (reachF m E u) (c : Int) = true → atB (reachF m E pv) (c : Int) = true) := fun u c hu hc h1 h2 =>
    (reach_at HG.out ⟨by omega, by omega⟩ ⟨by omega, by omega⟩).2 (((reach_at HG.out ⟨by omega, by omega⟩ ⟨by omega, by omega⟩).1 h1).trans ((reach_at HG.out ⟨by omega, by omega⟩ ⟨by omega, by omega⟩).1 h2))
  have HLB : Hid (∀ u : Nat, u < m → (reachF m E u).length = m) := fun u hu => reach_len HG.out ⟨by omega, by omega⟩
  have dmm : ((m : Int) != (m : Int)) = false := by simp
  clear F0 hpv
  obtain ⟨a, cap, rfl⟩ := hR1.shape
  clear hR1 hI2
  go_enter Try.func4, Try.ntmps4
  go_wp2_with fail
  refine (HM.out _ HR.out).mono ?_
  rintro e w1 ⟨va, rfl, hown1, hb1⟩
  have R1 : EdR w1 va E := RowK.own encE_len hown1
  obtain ⟨aa, ac, rfl, hac, ham, _, _⟩ := R1
  unfold maxLen at ham
  have RE : Hid (EdR w1 (.slice aa E.length ac) E) := RowK.own encE_len hown1
  have B1 : Hid (Below w.heap.size w w1) := hb1
  clear hown1 hb1 HM
  go_upto_region 2 with fail
  have N1 : BX 25 (w1.alloc (.cells #[.int .i64 m, .slice aa E.length ac] 25)) w1.heap.size #[.int .i64 m, .slice aa E.length ac] := BX.new _ _ _
  have A1 : Below w1.heap.size w1 (w1.alloc (.cells #[.int .i64 m, .slice aa E.length ac] 25)) := below_alloc _ _
  generalize w1.alloc (.cells #[.int .i64 m, .slice aa E.length ac] 25) = W1 at *
  have hl1 := N1.lt
  have HK : Hid (∀ X, Below W1.heap.size W1 X → BX 25 X w1.heap.size #[.int .i64 m, .slice aa E.length ac] ∧ Below w.heap.size w X ∧ EdR X (.slice aa E.length ac) E) := fun X hX => ⟨N1.below hX hl1, B1.out.trans ((A1.trans (hX.mono A1.size)).mono B1.out.size), RE.out.below (A1.trans (hX.mono A1.size)) (Nat.le_refl _)⟩
  generalize w1.heap.size = gq at *
  obtain ⟨q0, q1, _⟩ := N1.all2
  have RW : Hid (EdR W1 (.slice aa E.length ac) E) := (HK.out _ (Below.refl _ _)).2.2
  clear N1 A1
  go_wp2_with fail
  refine (CP.out _).mono ?_
  rintro e w2 ⟨rfl, hw⟩
  replace hw := hw.symm
  subst hw
  go_wp2_with fail
  refine (CR.out _ _ pv hpm RW.out).mono ?_
  rintro e W2 ⟨v2, rfl, hr2, hb2⟩
  have A2 : Hid (Below W1.heap.size W1 W2) := hb2
  have RA : Hid (BlR W2 v2 (reachF m E pv)) := hr2
  obtain ⟨ab, ao, acap, rfl, hac2, ham2, lta, hca⟩ := hr2.row HLA.out hm0
  have HCA : Hid (∀ X, Below W2.heap.size W2 X → ∀ i : Nat, i < m → X.cell? ⟨ab, ao + i, none⟩ = some (.bool (atB (reachF m E pv) (i : Int)))) := fun X hX i hi => (hX.cell (p := ⟨ab, ao + i, none⟩) lta).trans (hca i hi)
  have cav := hca pv hpm
  rw [HAV.out] at cav
  clear hr2 hb2 hca q0 q1
  obtain ⟨Q2, _, _⟩ := HK.out _ A2.out
  obtain ⟨q0, q1, _⟩ := Q2.all2
  clear Q2
  have i0 : (0 : Int) ≤ (pv : Int) := by omega
  have i1 : (pv : Int) < (m : Int) := by omega
  go_wp2_with fail
  clear cav
  go_loopw [11] (fun i wx => ∃ j : Nat, j ≤ E.length ∧ i = .int .i64 j ∧ wx = W2) (fun i _ => E.length - (intOf i).toNat)
  case atStart => exact ⟨0, by omega, rfl, rfl⟩
  case round =>
    obtain ⟨j, hj, rfl, rfl⟩ := hrel
    by_cases hlt : j < E.length
    · obtain ⟨_, _, R3⟩ := HK.out _ A2.out
      obtain ⟨eb, eo, ecap, e1, _, _, lt, hv⟩ := EdR.at R3 (by omega)
      injection e1 with e1 _ e3
      subst e1 e3
      obtain ⟨x, hx⟩ := getE hlt
      obtain ⟨c1, c2, c3⟩ := hv j x hx
      have hxm := List.mem_of_getElem? hx
      obtain ⟨g1, g2, g3, g4, _⟩ := HG.out x hxm
      have hcl := HAE.out x hxm
      obtain ⟨xf, hxf⟩ : ∃ xf : Nat, x.1 = xf := ⟨x.1.toNat, by omega⟩
      obtain ⟨xt, hxt⟩ : ∃ xt : Nat, x.2.1 = xt := ⟨x.2.1.toNat, by omega⟩
      rw [hxf] at c1 g1 g2 hcl
      rw [hxt] at c2 g3 g4 hcl
      have d1 := HCA.out _ (Below.refl _ _) xf (by omega)
      have d2 := HCA.out _ (Below.refl _ _) xt (by omega)
      have p0 : (0 : Int) ≤ (j : Int) := by omega
      have p1 : (j : Int) < (E.length : Int) := by omega
      clear hv hx hxm hxf hxt
      cases hA : atB (reachF m E pv) (xf : Int)
      · rw [hA] at d1
        clear hcl hA
        go_wp2_with fail
        go_roundw
        case rel => exact ⟨j + 1, by omega, by go_num, trivial⟩
        case measure => simp [intOf]; omega
      · rw [hcl hA] at d2
        rw [hA] at d1
        clear hcl hA
        go_wp2_with fail
        go_roundw
        case rel => exact ⟨j + 1, by omega, by go_num, trivial⟩
        case measure => simp [intOf]; omega
    · go_wp2_with fail
      obtain ⟨V2, rfl⟩ : ∃ V, V = wr := ⟨wr, rfl⟩
      go_loopw [12, 13, 14, 15] (fun i _ _ _ wx => ∃ k : Nat, k ≤ m ∧ i = .int .i64 k ∧ Below V2.heap.size V2 wx) (fun i _ _ _ _ => m - (intOf i).toNat)
      case atStart => exact ⟨0, by omega, rfl, Below.refl _ _⟩
      case round =>
        obtain ⟨k, hk, rfl, hbel⟩ := hrel
        have AX : Hid (Below V2.heap.size V2 wr) := hbel
        clear q0 q1
        obtain ⟨Q5, b5, R5⟩ := HK.out _ (A2.out.trans (hbel.mono A2.out.size))
        have B5 : Hid (Below w.heap.size w wr) := b5
        have E5 : Hid (EdR wr (.slice aa E.length ac) E) := R5
        obtain ⟨q0, q1, _⟩ := Q5.all2
        clear hbel Q5 b5 R5
        by_cases hltk : k < m
        · go_wp2_with fail
          refine (CR.out _ _ k hltk E5.out).mono ?_
          rintro e w6 ⟨v6, rfl, hr6, hb6⟩
          have A6 : Hid (Below V2.heap.size V2 w6) := AX.out.trans (hb6.mono AX.out.size)
          obtain ⟨bb, bo, bc, rfl, hbc, hbm, ltb, hcb⟩ := hr6.row (HLB.out k hltk) hm0
          have HCB : Hid (∀ i : Nat, i < m → w6.cell? ⟨bb, bo + i, none⟩ = some (.bool (atB (reachF m E k) (i : Int)))) := hcb
          have ck := HCA.out _ A6.out k hltk
          clear hr6 hb6 hcb q0 q1
          obtain ⟨Q6, _, _⟩ := HK.out _ (A2.out.trans (A6.out.mono A2.out.size))
          obtain ⟨q0, q1, _⟩ := Q6.all2
          clear Q6
          have k0 : (0 : Int) ≤ (k : Int) := by omega
          have k1 : (k : Int) < (m : Int) := by omega
          go_wp2_with fail
          go_loopw [15] (fun i wx => ∃ c : Nat, c ≤ m ∧ i = .int .i64 c ∧ wx = w6) (fun i _ => m - (intOf i).toNat)
          case atStart => exact ⟨0, by omega, rfl, rfl⟩
          case round =>
            obtain ⟨c, hc, rfl, rfl⟩ := hrel
            by_cases hltc : c < m
            · have hcl := HAT.out k c hltk hltc
              have dc := HCA.out _ A6.out c hltc
              have db := HCB.out c hltc
              have c0 : (0 : Int) ≤ (c : Int) := by omega
              have c1 : (c : Int) < (m : Int) := by omega
              cases hA : atB (reachF m E pv) (k : Int)
              · rw [hA] at ck
                clear hcl hA
                go_wp2_with fail
                go_roundw
                case rel => exact ⟨c + 1, by omega, by go_num, trivial⟩
                case measure => simp [intOf]; omega
              · cases hB : atB (reachF m E k) (c : Int)
                · rw [hA] at ck
                  rw [hB] at db
                  clear hcl hA hB
                  go_wp2_with fail
                  go_roundw
                  case rel => exact ⟨c + 1, by omega, by go_num, trivial⟩
                  case measure => simp [intOf]; omega
                · rw [hcl hA hB] at dc
                  rw [hA] at ck
                  rw [hB] at db
                  clear hcl hA hB
                  go_wp2_with fail
                  go_roundw
                  case rel => exact ⟨c + 1, by omega, by go_num, trivial⟩
                  case measure => simp [intOf]; omega
            · go_wp2_with fail
              go_roundw
              case rel => exact ⟨k + 1, by omega, by go_num, A6.out⟩
              case measure => simp [intOf]; omega
        · go_wp2_with fail
          go_ret
          exact ⟨rfl, B5.out⟩

set_option maxHeartbeats 400000 in
set_option maxRecDepth 100000 in
theorem lifted (os : Os) (started : os.Started) (H : Type) (enc : TypeId × Value → H) :
    ReturnsInHanded {} Try.checked os 4 .any (Rows.reachGoesSpec.pre6 enc Try.prog Try.f4 Rows.reachGoesRow.domain false) (Rows.reachGoesSpec.post enc Try.prog Try.f4 false true false false) := by
  refine returnsInHanded_of_change_sized (C := Try.checked) own started (by kernel_rfl) Try.func4
    (ChangeSpec.witness6 (enc := enc) (C := Try.checked) false ⟨#[], #[.int .i64 0, .slice none 0 0, .int .i64 0], []⟩ 8 (by kernel_rfl) (by kernel_rfl) (by kernel_rfl) (by kernel_rfl)) ?_
  intro W base args ds gs before hval0 hW _ hsz0 _
  have hval : ∀ (j : Nat) t v, Try.f4.params[j]? = some t → args[j]? = some v → Value.okWide Try.prog W .any base t v := hval0
  have hW' := hW
  obtain ⟨p, q, hA0, hV, rfl, hfz, hnd⟩ := hW
  have hA : DataW.TrodAll enc Try.prog W 0 (fun _ => true) true Try.f4.params.toList args.toList ds p := hA0
  have hsz : (DataW.weightsEach Try.prog (Try.f4.params.toList ++ Rows.reachGoesSpec.plain.varTypes Try.prog) (ds ++ gs)).all (fun x => decide (x ≤ reachBytes)) = true := hsz0
  rw [Try.params4] at hA hval hsz
  obtain ⟨v0, vs0, d0, ds0, p0, q0, hargs, rfl, rfl, h0, r0⟩ := trodAll_cons hA
  obtain ⟨v1, vs1, d1, ds1, p1, q1, rfl, rfl, rfl, h1, r1⟩ := trodAll_cons r0
  obtain ⟨v2, vs2, d2, ds2, p2, q2, rfl, rfl, rfl, h2, r2⟩ := trodAll_cons r1
  obtain ⟨rfl, rfl, rfl⟩ := trodAll_nil r2
  obtain rfl : args = #[v0, v1, v2] := by cases args; simp_all
  obtain ⟨rfl, rfl⟩ := trodVars_none hV
  have k0 := h0
  have lt0 : ∀ x ∈ p0, x.block < W.heap.size := by obtain ⟨m, hm⟩ := k0; exact DataW.trod_lt m _ _ _ hm
  have k1 := h1
  have lt1 : ∀ x ∈ p1, x.block < W.heap.size := by obtain ⟨m, hm⟩ := k1; exact DataW.trod_lt m _ _ _ hm
  have hw1 : ∀ m ∈ d1.weights Try.prog 22, m ≤ reachBytes := fun m hm => by simpa using List.all_eq_true.1 hsz _ (DataW.weights_mem_each (j := 1) (t := 22) rfl rfl m hm)
  have k2 := h2
  have lt2 : ∀ x ∈ p2, x.block < W.heap.size := by obtain ⟨m, hm⟩ := k2; exact DataW.trod_lt m _ _ _ hm
  obtain ⟨n0, rfl, _, _, wf0⟩ := open_int Try.underlying3 (hval 0 3 v0 rfl rfl) h0
  have hI0 := bounds_i64 wf0
  obtain ⟨es1, hR1, hB1, hL1⟩ := open_ways (okWide_slice Try.underlying22 (hval 1 22 v1 rfl rfl)) h1 hw1
  obtain ⟨n2, rfl, _, _, wf2⟩ := open_int Try.underlying3 (hval 2 3 v2 rfl rfl) h2
  have hI2 := bounds_i64 wf2
  clear hA0 hval0
  refine (walk n0 v1 es1 n2 W hI0 hR1 hB1 hL1 hI2).mono fun e W' ⟨he, bel⟩ => ?_
  subst he
  exact ⟨_, rfl, _, _, _, [], _, [], hW', trodAll_mk1 (shut_bool Try.underlying4 _), (trodAll_cons_mk (Below.trod laidOut (by kernel_rfl) (of_decide_eq_true (by kernel_rfl)) k0 bel lt0) (trodAll_cons_mk (Below.trod laidOut (by kernel_rfl) (of_decide_eq_true (by kernel_rfl)) k1 bel lt1) (trodAll_cons_mk (Below.trod laidOut (by kernel_rfl) (of_decide_eq_true (by kernel_rfl)) k2 bel lt2) trodAll_mk0))), rfl, bel.frame _, fun h => by cases h⟩

theorem over : Rows.reachGoesRow.holds Try.pinned (OpenSpec.ofChange Rows.reachGoesSpec) :=
  OpenClaim.holds_of_wide 4 Try.f4 rfl rfl rfl rfl rfl rfl rfl ⟨rfl, rfl, rfl, rfl, rfl⟩ rfl rfl rfl rfl rfl (by kernel_rfl) Try.func4 (by kernel_rfl)
    (of_decide_eq_true (by kernel_rfl)) (by unfold Func.isWrapper; first | (rw [if_pos (by decide +kernel)]; kernel_rfl) | (rw [if_neg (by decide +kernel)]; exact ⟨rfl, rfl⟩))
    (fun os started H enc _ => lifted os started H enc)

/-- The statement. -/
theorem proved : Rows.ReachGoesSaid := over
#print axioms proved
end Go.Proofs.Ytankibadiomkkab.reachGoes
