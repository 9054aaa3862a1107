/-
  It does not matter in which order reports come; what they say adds up (the law BoardTurns returns true for all raw numbers, and its arguments read as before); no condition.
-/
import Derived.Test.YtpikfiegmnmbmaaReported
import Derived.Test.YtpikfiegmnmbmaaTallyReady
import Derived.Test.YtpikfiegmnmbmaaTallyMem
import Derived.Test.YtpikfiegmnmbmaaBoardReady
import Derived.WalkKit
import Derived.ProofKit
import Derived.OpenShut
import Derived.ShutString
import Derived.SizedLaws
import Derived.ChangeOld
import Derived.Below
namespace Go.Proofs.Ytpikfiegmnmbmaa.boardTurns
set_option maxRecDepth 100000
open Go.ChangeShapes Go.WideShapes Go.ChangeAt Go.RowKit

theorem own : ownKnob Try.prog.godebug = none := by kernel_rfl
theorem laidOut : laidOutB Try.prog = true := by kernel_rfl

set_option maxHeartbeats 8000000 in
set_option maxRecDepth 100000 in
theorem walk (n0 : Int) (v1 : Value) (ts1 : List TyL) (v2 : Value) (ns2 : List Int) (v3 : Value) (ns3 : List Int) (w : World) (hI0 : -9223372036854775808 ≤ n0 ∧ n0 ≤ 9223372036854775807) (hR1 : TlsR w v1 ts1) (hB1 : ∀ t ∈ ts1, TyB t) (hR2 : InR w v2 ns2) (hB2 : ∀ x ∈ ns2, i64B x) (hR3 : InR w v3 ns3) (hB3 : ∀ x ∈ ns3, i64B x) :
    Calls Try.prog 7 #[.int .i64 n0, v1, v2, v3] w fun e w' => e = .returned (.bool true) ∧ Below w.heap.size w w' := by
  have _u := hI0
  clear _u
  have _u := hR1
  clear _u
  have _u := hB1
  clear _u
  have _u := hR2
  clear _u
  have _u := hB2
  clear _u
  have _u := hR3
  clear _u
  have _u := hB3
  clear _u
  have hx := pickF_bd n0 5 (by omega)
  obtain ⟨W, hWe⟩ : ∃ W : Nat, (W : Int) = 1 + pickF n0 5 := ⟨(1 + pickF n0 5).toNat, by omega⟩
  have hW : 1 ≤ W ∧ W ≤ 5 := by omega
  have HW : Hid (1 ≤ W ∧ W ≤ 5) := hW
  have CP : Hid (∀ X, Calls Try.prog 17 #[.int .i64 n0, .int .i64 5] X fun e w' => e = .returned (.int .i64 (pickF n0 5)) ∧ w' = X) := fun X => picked_any n0 5 X hI0.1 hI0.2 (by decide) (by decide)
  have hW1 : 1 ≤ W := hW.1
  have hW5 : W ≤ 5 := hW.2
  clear hI0 hx hW
  generalize pickF n0 5 = y0 at *
  have hy : (1 : Int) + y0 = (W : Int) := hWe.symm
  clear hWe
  have HT : Hid (TlsR w v1 ts1) := hR1
  have HTB : Hid (∀ t ∈ ts1, TyB t) := hB1
  obtain ⟨la, lc, rfl, hll⟩ := hR1.shape
  clear hR1 hB1
  have HO2 : Hid (InR w v2 ns2) := hR2
  have HOB2 : Hid (∀ x ∈ ns2, i64B x) := hB2
  obtain ⟨oa2, oc2, rfl⟩ := hR2.shape
  clear hR2 hB2
  have HO3 : Hid (InR w v3 ns3) := hR3
  have HOB3 : Hid (∀ x ∈ ns3, i64B x) := hB3
  obtain ⟨oa3, oc3, rfl⟩ := hR3.shape
  clear hR3 hB3
  have CR1 : Hid (∀ X, TlsR X (.slice la ts1.length lc) ts1 → InR X (.slice oa2 ns2.length oc2) ns2 → Calls Try.prog 18 #[.int .i64 (W : Int), .slice la ts1.length lc, .slice oa2 ns2.length oc2, .int .i64 (W : Int), .int .i64 (-1)] X (RptP X W (repsT W ts1 ns2 (W : Int) (-1) W))) := fun X h1 h2 => reported_any W HW.out _ ts1 _ ns2 (W : Int) (-1) X h1 HTB.out h2 HOB2.out
  have CR2 : Hid (∀ X, TlsR X (.slice la ts1.length lc) ts1 → InR X (.slice oa3 ns3.length oc3) ns3 → Calls Try.prog 18 #[.int .i64 (W : Int), .slice la ts1.length lc, .slice oa3 ns3.length oc3, .int .i64 (W : Int), .int .i64 (-1)] X (RptP X W (repsT W ts1 ns3 (W : Int) (-1) W))) := fun X h1 h2 => reported_any W HW.out _ ts1 _ ns3 (W : Int) (-1) X h1 HTB.out h2 HOB3.out
  have CY1 : Hid (∀ X v, RpsR X v (repsT W ts1 ns2 (W : Int) (-1) W) → Calls Try.prog 15 #[.agg #[.int .i64 (W : Int), .int .i64 2, .int .i64 3, v]] X fun e w' => e = .returned (.tuple #[.int .i64 (allT wakT ts1 W), .int .i64 (allT opnT ts1 W), .int .i64 0]) ∧ Below X.heap.size X w') := fun X v h => by
    have h1 := bReady_any (brdT W ts1 ns2 (W : Int) (-1) W) v X h
    unfold RdyP at h1
    rw [ready_sum HW.out RpL.waking wakT (fun _ => rfl) (wakT_bd ts1), ready_sum HW.out RpL.opn opnT (fun _ => rfl) (opnT_bd ts1), tally_all HW.out] at h1
    exact h1
  have CY2 : Hid (∀ X v, RpsR X v (repsT W ts1 ns3 (W : Int) (-1) W) → Calls Try.prog 15 #[.agg #[.int .i64 (W : Int), .int .i64 2, .int .i64 3, v]] X fun e w' => e = .returned (.tuple #[.int .i64 (allT wakT ts1 W), .int .i64 (allT opnT ts1 W), .int .i64 0]) ∧ Below X.heap.size X w') := fun X v h => by
    have h1 := bReady_any (brdT W ts1 ns3 (W : Int) (-1) W) v X h
    unfold RdyP at h1
    rw [ready_sum HW.out RpL.waking wakT (fun _ => rfl) (wakT_bd ts1), ready_sum HW.out RpL.opn opnT (fun _ => rfl) (opnT_bd ts1), tally_all HW.out] at h1
    exact h1
  go_enter Try.func7, Try.ntmps7
  go_wp2_with fail
  refine (CP.out _).mono ?_
  rintro e w0 ⟨rfl, e0⟩
  have e0' : w = w0 := e0.symm
  subst e0'
  clear e0
  have A0 : Hid (Below w.heap.size w w) := Below.refl _ _
  go_wp2_with fail
  refine (CR1.out _ (HT.out.below A0.out (Nat.le_refl _)) (HO2.out.below A0.out (Nat.le_refl _))).mono ?_
  rintro e w1a ⟨v, rfl, hr, hb⟩
  obtain ⟨x1a, x1c, hs⟩ := hr.shape
  have hbA : Below w.heap.size w w1a := A0.out.trans (hb.mono A0.out.size)
  have N1 : Hid (Below w.heap.size w (w1a.alloc (.cells #[.int .i64 (W : Int), .int .i64 2, .int .i64 3, v] 24)) ∧ BX 24 (w1a.alloc (.cells #[.int .i64 (W : Int), .int .i64 2, .int .i64 3, v] 24)) w1a.heap.size #[.int .i64 (W : Int), .int .i64 2, .int .i64 3, v] ∧ RpsR (w1a.alloc (.cells #[.int .i64 (W : Int), .int .i64 2, .int .i64 3, v] 24)) v (repsT W ts1 ns2 (W : Int) (-1) W)) := ⟨hbA.alloc hbA.size _, BX.new _ _ _, hr.below (below_alloc _ _) (Nat.le_refl _)⟩
  obtain ⟨m1, hm1⟩ : ∃ m, m = (repsT W ts1 ns2 (W : Int) (-1) W).length := ⟨_, rfl⟩
  rw [← hm1] at hs
  have HM1 : Hid (m1 = (repsT W ts1 ns2 (W : Int) (-1) W).length) := hm1
  subst hs
  clear hr hb hbA hm1
  go_upto_region 3 with fail
  generalize w1a.alloc (.cells #[.int .i64 (W : Int), .int .i64 2, .int .i64 3, .slice x1a m1 x1c] 24) = w1b at *
  generalize w1a.heap.size = q1 at *
  have A1 : Hid (Below w.heap.size w w1b) := N1.out.1
  have hl1 := N1.out.2.1.lt
  have hs1 := A1.out.size
  go_wp2_with fail
  refine (CR2.out _ (HT.out.below A1.out (Nat.le_refl _)) (HO3.out.below A1.out (Nat.le_refl _))).mono ?_
  rintro e w2a ⟨v, rfl, hr, hb⟩
  obtain ⟨x2a, x2c, hs⟩ := hr.shape
  have N2 : Hid (Below w1b.heap.size w1b (w2a.alloc (.cells #[.int .i64 (W : Int), .int .i64 2, .int .i64 3, v] 24)) ∧ BX 24 (w2a.alloc (.cells #[.int .i64 (W : Int), .int .i64 2, .int .i64 3, v] 24)) w2a.heap.size #[.int .i64 (W : Int), .int .i64 2, .int .i64 3, v] ∧ RpsR (w2a.alloc (.cells #[.int .i64 (W : Int), .int .i64 2, .int .i64 3, v] 24)) v (repsT W ts1 ns3 (W : Int) (-1) W)) := ⟨hb.alloc hb.size _, BX.new _ _ _, hr.below (below_alloc _ _) (Nat.le_refl _)⟩
  obtain ⟨m2, hm2⟩ : ∃ m, m = (repsT W ts1 ns3 (W : Int) (-1) W).length := ⟨_, rfl⟩
  rw [← hm2] at hs
  subst hs
  clear hr hb hm2
  go_upto_region 4 with fail
  generalize w2a.alloc (.cells #[.int .i64 (W : Int), .int .i64 2, .int .i64 3, .slice x2a m2 x2c] 24) = w2b at *
  generalize w2a.heap.size = q2 at *
  have hl2 := N2.out.2.1.lt
  have hs2 := N2.out.1.size
  have K : Hid (∀ X, Below w2b.heap.size w2b X → Below w.heap.size w X ∧ (BX 24 X q1 #[.int .i64 (W : Int), .int .i64 2, .int .i64 3, .slice x1a m1 x1c] ∧ RpsR X (.slice x1a m1 x1c) (repsT W ts1 ns2 (W : Int) (-1) W)) ∧ BX 24 X q2 #[.int .i64 (W : Int), .int .i64 2, .int .i64 3, .slice x2a m2 x2c] ∧ RpsR X (.slice x2a m2 x2c) (repsT W ts1 ns3 (W : Int) (-1) W)) := fun X hX => by
    have h1 : Below w1b.heap.size w1b X := N2.out.1.trans (hX.mono hs2)
    exact ⟨A1.out.trans (h1.mono hs1), ⟨N1.out.2.1.below h1 hl1, N1.out.2.2.below h1 (Nat.le_refl _)⟩, N2.out.2.1.below hX hl2, N2.out.2.2.below hX (Nat.le_refl _)⟩
  have B2 : Hid (Below w2b.heap.size w2b w2b) := Below.refl _ _
  have HMW : Hid (m1 = W) := by show _ = _; rw [HM1.out]; exact full_len
  obtain ⟨c0, c1, c2, c3⟩ := (K.out _ B2.out).2.1.1.all4
  go_wp2_with fail
  refine (CY1.out _ _ (K.out _ B2.out).2.1.2).mono ?_
  rintro e w3 ⟨rfl, hb⟩
  have B3 : Hid (Below w2b.heap.size w2b w3) := hb
  clear hb c0 c1 c2 c3
  obtain ⟨c0, c1, c2, c3⟩ := (K.out _ B3.out).2.2.1.all4
  go_wp2_with fail
  refine (CY2.out _ _ (K.out _ B3.out).2.2.2).mono ?_
  rintro e w4 ⟨rfl, hb⟩
  have B4 : Hid (Below w2b.heap.size w2b w4) := B3.out.trans (hb.mono B3.out.size)
  clear hb c0 c1 c2 c3 CR1 CR2 CY1 CY2 CP
  go_wp2_with fail
  go_loopw [20, 21, 22] (fun a c i wr => ∃ k : Nat, k ≤ W ∧ i = .int .i64 k ∧ a = .int .i64 (allT wakT ts1 k) ∧ c = .int .i64 (allT opnT ts1 k) ∧ Below w2b.heap.size w2b wr) (fun _ _ i _ => W - (intOf i).toNat)
  case atStart => exact ⟨0, by omega, rfl, rfl, rfl, B4.out⟩
  case round =>
    obtain ⟨k, hk, rfl, rfl, rfl, hbel⟩ := hrel
    have HB : Hid (Below w2b.heap.size w2b wr) := hbel
    clear hbel
    have HEND : Hid (¬ (k < W ∧ k < ts1.length) → allT wakT ts1 k = allT wakT ts1 W ∧ allT opnT ts1 k = allT opnT ts1 W) := fun h => by
      rcases Nat.lt_or_ge k W with h1 | h1
      · have h2 : ts1.length ≤ k := by omega
        have e : W = k + (W - k) := by omega
        rw [e, allT_stop (fun i hi => by unfold wakT; rw [List.getElem?_eq_none hi]) h2, allT_stop (fun i hi => by unfold opnT; rw [List.getElem?_eq_none hi]) h2]
        exact ⟨rfl, rfl⟩
      · have e : k = W := by omega
        rw [e]
        exact ⟨rfl, rfl⟩
    by_cases c1 : k < W
    case neg =>
      obtain ⟨e1, e2⟩ := HEND.out (fun h => c1 h.1)
      rw [e1, e2]
      clear e1 e2 HEND
      obtain ⟨d0, d1, d2, d3⟩ := (K.out _ HB.out).2.1.1.all4
      have t1 : (allT wakT ts1 W == allT wakT ts1 W) = true := by simp
      have t2 : (allT opnT ts1 W == allT opnT ts1 W) = true := by simp
      have t3 : ((m1 : Int) == (W : Int)) = true := by rw [HMW.out]; simp
      go_wp2_with fail
      go_ret
      exact ⟨rfl, (K.out _ HB.out).1⟩
    by_cases c2 : k < ts1.length
    case neg =>
      obtain ⟨e1, e2⟩ := HEND.out (fun h => c2 h.2)
      rw [e1, e2]
      clear e1 e2 HEND
      obtain ⟨d0, d1, d2, d3⟩ := (K.out _ HB.out).2.1.1.all4
      have t1 : (allT wakT ts1 W == allT wakT ts1 W) = true := by simp
      have t2 : (allT opnT ts1 W == allT opnT ts1 W) = true := by simp
      have t3 : ((m1 : Int) == (W : Int)) = true := by rw [HMW.out]; simp
      go_wp2_with fail
      go_ret
      exact ⟨rfl, (K.out _ HB.out).1⟩
    obtain ⟨lb, loff, lcap, e1, hv⟩ := (HT.out.below (K.out _ HB.out).1 (Nat.le_refl _)).at (by omega)
    injection e1 with e1 e2 e3
    subst e1 e3
    clear e2
    obtain ⟨t, ht⟩ := getX c2
    obtain ⟨sa, sc, ⟨d0, d1, d2⟩, _⟩ := hv k t ht
    have htb := HTB.out t (List.mem_of_getElem? ht)
    have CW : Hid (∀ X, Calls Try.prog 17 #[.int .i64 t.waking, .int .i64 5] X fun e w' => e = .returned (.int .i64 (wakT ts1 k)) ∧ w' = X) := fun X => by
      have h1 := picked_any t.waking 5 X htb.2.1.1 htb.2.1.2 (by decide) (by decide)
      unfold wakT
      rw [ht]
      exact h1
    have CO : Hid (∀ X, Calls Try.prog 17 #[.int .i64 t.opn, .int .i64 5] X fun e w' => e = .returned (.int .i64 (opnT ts1 k)) ∧ w' = X) := fun X => by
      have h1 := picked_any t.opn 5 X htb.2.2.1 htb.2.2.2 (by decide) (by decide)
      unfold opnT
      rw [ht]
      exact h1
    have S1 : Hid (allT wakT ts1 (k + 1) = allT wakT ts1 k + wakT ts1 k) := allT_succ _ _ _
    have S2 : Hid (allT opnT ts1 (k + 1) = allT opnT ts1 k + opnT ts1 k) := allT_succ _ _ _
    have g1 := allT_bd (wakT_bd ts1) k
    have g2 := allT_bd (opnT_bd ts1) k
    have g3 := wakT_bd ts1 k
    have g4 := opnT_bd ts1 k
    clear hv ht htb HEND
    generalize allT wakT ts1 k = a1 at *
    generalize allT opnT ts1 k = a2 at *
    generalize wakT ts1 k = a3 at *
    generalize opnT ts1 k = a4 at *
    go_wp2_with fail
    refine (CW.out _).mono ?_
    rintro e w9 ⟨rfl, e9⟩
    have e9' : wr = w9 := e9.symm
    subst e9'
    clear e9
    go_wp2_with fail
    refine (CO.out _).mono ?_
    rintro e w9 ⟨rfl, e9⟩
    have e9' : wr = w9 := e9.symm
    subst e9'
    clear e9
    go_wp2_with fail
    go_roundw
    case rel => exact ⟨k + 1, by omega, by go_num, by rw [S1.out], by rw [S2.out], HB.out⟩
    case measure => simp [intOf]; omega

set_option maxHeartbeats 400000 in
set_option maxRecDepth 100000 in
theorem lifted (os : Os) (started : os.Started) (H : Type) (enc : TypeId × Value → H) :
    ReturnsInHanded {} Try.checked os 7 .any (Rows.boardTurnsSpec.pre6 enc Try.prog Try.f7 Rows.boardTurnsRow.domain false) (Rows.boardTurnsSpec.post enc Try.prog Try.f7 false true false false) := by
  refine returnsInHanded_of_change_sized (C := Try.checked) own started (by kernel_rfl) Try.func7
    (ChangeSpec.witness6 (enc := enc) (C := Try.checked) false ⟨#[], #[.int .i64 0, .slice none 0 0, .slice none 0 0, .slice none 0 0], []⟩ 8 (by kernel_rfl) (by kernel_rfl) (by kernel_rfl) (by kernel_rfl)) ?_
  intro W base args ds gs before hval0 hW _ hsz0 _
  have hval : ∀ (j : Nat) t v, Try.f7.params[j]? = some t → args[j]? = some v → Value.okWide Try.prog W .any base t v := hval0
  have hW' := hW
  obtain ⟨p, q, hA0, hV, rfl, hfz, hnd⟩ := hW
  have hA : DataW.TrodAll enc Try.prog W 0 (fun _ => true) true Try.f7.params.toList args.toList ds p := hA0
  have hsz : (DataW.weightsEach Try.prog (Try.f7.params.toList ++ Rows.boardTurnsSpec.plain.varTypes Try.prog) (ds ++ gs)).all (fun x => decide (x ≤ reachBytes)) = true := hsz0
  rw [Try.params7] at hA hval hsz
  obtain ⟨v0, vs0, d0, ds0, p0, q0, hargs, rfl, rfl, h0, r0⟩ := trodAll_cons hA
  obtain ⟨v1, vs1, d1, ds1, p1, q1, rfl, rfl, rfl, h1, r1⟩ := trodAll_cons r0
  obtain ⟨v2, vs2, d2, ds2, p2, q2, rfl, rfl, rfl, h2, r2⟩ := trodAll_cons r1
  obtain ⟨v3, vs3, d3, ds3, p3, q3, rfl, rfl, rfl, h3, r3⟩ := trodAll_cons r2
  obtain ⟨rfl, rfl, rfl⟩ := trodAll_nil r3
  obtain rfl : args = #[v0, v1, v2, v3] := by cases args; simp_all
  obtain ⟨rfl, rfl⟩ := trodVars_none hV
  have k0 := h0
  have lt0 : ∀ x ∈ p0, x.block < W.heap.size := by obtain ⟨m, hm⟩ := k0; exact DataW.trod_lt m _ _ _ hm
  have k1 := h1
  have lt1 : ∀ x ∈ p1, x.block < W.heap.size := by obtain ⟨m, hm⟩ := k1; exact DataW.trod_lt m _ _ _ hm
  have k2 := h2
  have lt2 : ∀ x ∈ p2, x.block < W.heap.size := by obtain ⟨m, hm⟩ := k2; exact DataW.trod_lt m _ _ _ hm
  have k3 := h3
  have lt3 : ∀ x ∈ p3, x.block < W.heap.size := by obtain ⟨m, hm⟩ := k3; exact DataW.trod_lt m _ _ _ hm
  obtain ⟨n0, rfl, _, _, wf0⟩ := open_int Try.underlying3 (hval 0 3 v0 rfl rfl) h0
  have hI0 := bounds_i64 wf0
  obtain ⟨ts1, hR1, hB1⟩ := open_tallies (okWide_slice Try.underlying39 (hval 1 39 v1 rfl rfl)) h1
  obtain ⟨ns2, hR2, hB2⟩ := open_intsO (okWide_slice Try.underlying30 (hval 2 30 v2 rfl rfl)) h2
  obtain ⟨ns3, hR3, hB3⟩ := open_intsO (okWide_slice Try.underlying30 (hval 3 30 v3 rfl rfl)) h3
  clear hA0 hval0
  refine (walk n0 v1 ts1 v2 ns2 v3 ns3 W hI0 hR1 hB1 hR2 hB2 hR3 hB3).mono fun e W' ⟨he, bel⟩ => ?_
  subst he
  exact ⟨_, rfl, _, _, _, [], _, [], hW', trodAll_mk1 (shut_bool Try.underlying4 _), (trodAll_cons_mk (Below.trod laidOut (by kernel_rfl) (of_decide_eq_true (by kernel_rfl)) k0 bel lt0) (trodAll_cons_mk (Below.trod laidOut (by kernel_rfl) (of_decide_eq_true (by kernel_rfl)) k1 bel lt1) (trodAll_cons_mk (Below.trod laidOut (by kernel_rfl) (of_decide_eq_true (by kernel_rfl)) k2 bel lt2) (trodAll_cons_mk (Below.trod laidOut (by kernel_rfl) (of_decide_eq_true (by kernel_rfl)) k3 bel lt3) trodAll_mk0)))), rfl, bel.frame _, fun h => by cases h⟩

theorem over : Rows.boardTurnsRow.holds Try.pinned (OpenSpec.ofChange Rows.boardTurnsSpec) :=
  OpenClaim.holds_of_wide 7 Try.f7 rfl rfl rfl rfl rfl rfl rfl ⟨rfl, rfl, rfl, rfl, rfl⟩ rfl rfl rfl rfl rfl (by kernel_rfl) Try.func7 (by kernel_rfl)
    (of_decide_eq_true (by kernel_rfl)) (by unfold Func.isWrapper; first | (rw [if_pos (by decide +kernel)]; kernel_rfl) | (rw [if_neg (by decide +kernel)]; exact ⟨rfl, rfl⟩))
    (fun os started H enc _ => lifted os started H enc)

/-- The statement. -/
theorem proved : Rows.BoardTurnsSaid := over
#print axioms proved
end Go.Proofs.Ytpikfiegmnmbmaa.boardTurns
