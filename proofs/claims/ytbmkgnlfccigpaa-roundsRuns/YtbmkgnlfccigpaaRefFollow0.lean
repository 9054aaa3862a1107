/-
  The document's own Followed, where no round is made: jobs that are refused, states that may not be, that are done, that are full.
-/
import Derived.Test.YtbmkgnlfccigpaaRefStaCopy
import Derived.Test.YtbmkgnlfccigpaaRoundTell
import Derived.Test.YtbmkgnlfccigpaaRefJob
namespace Go.Proofs.Ytbmkgnlfccigpaa
set_option maxRecDepth 100000
open Go.ChangeShapes Go.WideShapes Go.ChangeAt Go.RowKit Go.Sort

set_option maxHeartbeats 4000000 in
set_option maxRecDepth 100000 in
theorem followed_early (v : Value) (es : List Ed) (n k s : Int) (T : StS) (vv vm : Value) (w : World) (h : EdR w v es) (hv : MlR w vv T.vals) (hm : LiR w vm T.mail) (hml : ∀ l ∈ T.mail, l.length ≤ 140737488355328) (hearly : ¬ (jobE n es k s = 0 ∧ mayR n.toNat k T = true ∧ T.done = false ∧ ¬ 100000 ≤ T.step)) :
    Calls Try.prog 11 #[.agg #[.int .i64 n, v, .int .i64 k, .int .i64 s], .agg #[.int .i64 T.step, .int .i64 T.phase, .bool T.fresh, .bool T.done, vv, vm]] w (StaP w (folE n es k s T)) := by
  have HR : Hid (EdR w v es) := h
  obtain ⟨a, cap, rfl, _, _, _, _⟩ := h
  have HCK : Hid (∀ X, EdR X (.slice a es.length cap) es → Calls Try.prog 28 #[.agg #[.int .i64 n, .slice a es.length cap, .int .i64 k, .int .i64 s]] X fun e w' => e = .returned (.int .i64 (jobE n es k s)) ∧ Below X.heap.size X w') := fun X hX => jobFault_any _ es n k s X hX
  have HV : Hid (MlR w vv T.vals) := hv
  have HM : Hid (LiR w vm T.mail) := hm
  obtain ⟨va, vc, rfl, hvc, hvm, _, _⟩ := hv
  obtain ⟨ma, mc, rfl, hmc, hmm, _⟩ := hm
  unfold maxLen at hvm hmm
  have HSM : Hid (∀ X, jobE n es k s = 0 → MlR X (.slice va T.vals.length vc) T.vals → LiR X (.slice ma T.mail.length mc) T.mail → Calls Try.prog 29 #[.agg #[.int .i64 n, .slice a es.length cap, .int .i64 k, .int .i64 s], .agg #[.int .i64 T.step, .int .i64 T.phase, .bool T.fresh, .bool T.done, .slice va T.vals.length vc, .slice ma T.mail.length mc]] X fun e w' => e = .returned (.bool (mayR n.toNat k T)) ∧ Below X.heap.size X w') := fun X hj h1 h2 => by
    obtain ⟨hf, _, _⟩ := jobE_zero hj
    obtain ⟨hn0, hn1, _, _⟩ := fault_ok hf
    obtain ⟨m, rfl⟩ : ∃ m : Nat, n = m := ⟨n.toNat, by omega⟩
    rw [Int.toNat_natCast]
    exact stateMay_any a es.length cap m k s T _ _ X h1 h2 (by omega) hml
  have HSC : Hid (∀ X, jobE n es k s = 0 → mayR n.toNat k T = true → MlR X (.slice va T.vals.length vc) T.vals → LiR X (.slice ma T.mail.length mc) T.mail → Calls Try.prog 24 #[.agg #[.int .i64 T.step, .int .i64 T.phase, .bool T.fresh, .bool T.done, .slice va T.vals.length vc, .slice ma T.mail.length mc]] X fun e w' => ∃ v1 v2, e = .returned (.agg #[.int .i64 T.step, .int .i64 T.phase, .bool T.fresh, .bool T.done, v1, v2]) ∧ w'.ownsRow X.heap.size 59 2 v1 T.vals.length (T.vals.flatMap encM) ∧ OwnLi w' X.heap.size v2 T.mail ∧ Below X.heap.size X w') := fun X hj hm h1 h2 => by
    obtain ⟨hf, _, _⟩ := jobE_zero hj
    obtain ⟨hn0, hn1, _, _⟩ := fault_ok hf
    obtain ⟨g1, g2, g3⟩ := mayR_size hm
    exact stateCopy_any T _ _ X h1 h2 (by omega) (by omega) fun l hl => by have := manyL_mem hl; omega
  have HE1 : Hid (jobE n es k s ≠ 0 → folE n es k s T = (jobE n es k s, st0)) := folE_bad
  have HE2 : Hid (jobE n es k s = 0 → mayR n.toNat k T = false → folE n es k s T = (9, st0)) := folE_no
  have HE3 : Hid (jobE n es k s = 0 → mayR n.toNat k T = true → T.done = true → folE n es k s T = (0, T)) := folE_done
  have HE4 : Hid (jobE n es k s = 0 → mayR n.toNat k T = true → T.done = false → 100000 ≤ T.step → folE n es k s T = (10, st0)) := folE_full
  have HEA : Hid (¬ (jobE n es k s = 0 ∧ mayR n.toNat k T = true ∧ T.done = false ∧ ¬ 100000 ≤ T.step)) := hearly
  clear hearly
  generalize folE n es k s T = R at *
  generalize mayR n.toNat k T = mr at *
  clear hml
  obtain ⟨step, phase, fr, dn, vs, ms⟩ := T
  simp only at HV HM hvc hvm hmc hmm HSM HSC HE1 HE2 HE3 HE4 HEA ⊢
  obtain ⟨W0, hW0⟩ : ∃ W0, W0 = ((w.alloc (.cells #[.int .i64 n, .slice a es.length cap, .int .i64 k, .int .i64 s] 26)).alloc (.cells #[.int .i64 step, .int .i64 phase, .bool fr, .bool dn, .slice va vs.length vc, .slice ma ms.length mc] 30)).alloc (.cells #[.int .i64 0, .int .i64 0, .bool false, .bool false, .slice none 0 0, .slice none 0 0] 30) := ⟨_, rfl⟩
  obtain ⟨Q0, T0, Z0, B0, s1, s2⟩ := boxes3 w #[.int .i64 n, .slice a es.length cap, .int .i64 k, .int .i64 s] #[.int .i64 step, .int .i64 phase, .bool fr, .bool dn, .slice va vs.length vc, .slice ma ms.length mc] #[.int .i64 0, .int .i64 0, .bool false, .bool false, .slice none 0 0, .slice none 0 0] 26 30 30 W0 hW0
  have BH : Hid (Below w.heap.size w W0) := B0
  have HK : Hid (∀ X, Below W0.heap.size W0 X → BX 26 X w.heap.size #[.int .i64 n, .slice a es.length cap, .int .i64 k, .int .i64 s] ∧ BX 30 X (w.heap.size + 1) #[.int .i64 step, .int .i64 phase, .bool fr, .bool dn, .slice va vs.length vc, .slice ma ms.length mc] ∧ BX 30 X (w.heap.size + 2) #[.int .i64 0, .int .i64 0, .bool false, .bool false, .slice none 0 0, .slice none 0 0] ∧ Below w.heap.size w X) := fun X hX => ⟨Q0.below hX (by omega), T0.below hX (by omega), Z0.below hX (by omega), BH.out.trans (hX.mono (by omega))⟩
  have HNO : Hid (∀ X f, Below W0.heap.size W0 X → R = (f, st0) → BX 30 (put6 X (w.heap.size + 2) (.int .i64 0) (.int .i64 0) (.bool false) (.bool false) (.slice none 0 0) (.slice none 0 0)) (w.heap.size + 2) #[.int .i64 0, .int .i64 0, .bool false, .bool false, .slice none 0 0, .slice none 0 0] ∧ StaP w R (.returned (.tuple #[.agg #[.int .i64 0, .int .i64 0, .bool false, .bool false, .slice none 0 0, .slice none 0 0], .int .i64 f])) (put6 X (w.heap.size + 2) (.int .i64 0) (.int .i64 0) (.bool false) (.bool false) (.slice none 0 0) (.slice none 0 0))) := fun X f hX hR => by
    obtain ⟨_, _, Z1, b1⟩ := HK.out X hX
    refine ⟨Z1.put6, ?_⟩
    rw [hR]
    exact StaP.no (below_put6 b1 (by omega) Z1.lt _ _ _ _ _ _)
  have R0 : Hid (EdR W0 (.slice a es.length cap) es) := HR.out.below BH.out (Nat.le_refl _)
  have HVX : Hid (∀ X, Below W0.heap.size W0 X → MlR X (.slice va vs.length vc) vs ∧ LiR X (.slice ma ms.length mc) ms) := fun X hX => ⟨HV.out.below (HK.out _ hX).2.2.2 (Nat.le_refl _), HM.out.below (HK.out _ hX).2.2.2 (Nat.le_refl _)⟩
  obtain ⟨q0, q1, q2, q3⟩ := Q0.all4
  clear Q0 T0 B0 Z0
  by_cases hj : jobE n es k s = 0
  · replace HSM : Hid (∀ X, Below W0.heap.size W0 X → Calls Try.prog 29 #[.agg #[.int .i64 n, .slice a es.length cap, .int .i64 k, .int .i64 s], .agg #[.int .i64 step, .int .i64 phase, .bool fr, .bool dn, .slice va vs.length vc, .slice ma ms.length mc]] X fun e w' => e = .returned (.bool mr) ∧ Below X.heap.size X w') := fun X hX => HSM.out X hj (HVX.out X hX).1 (HVX.out X hX).2
    replace HSC : Hid (mr = true → ∀ X, Below W0.heap.size W0 X → Calls Try.prog 24 #[.agg #[.int .i64 step, .int .i64 phase, .bool fr, .bool dn, .slice va vs.length vc, .slice ma ms.length mc]] X fun e w' => ∃ v1 v2, e = .returned (.agg #[.int .i64 step, .int .i64 phase, .bool fr, .bool dn, v1, v2]) ∧ w'.ownsRow X.heap.size 59 2 v1 vs.length (vs.flatMap encM) ∧ OwnLi w' X.heap.size v2 ms ∧ Below X.heap.size X w') := fun hmr X hX => HSC.out X hj hmr (HVX.out X hX).1 (HVX.out X hX).2
    replace HE2 : Hid (mr = false → R = (9, st0)) := HE2.out hj
    replace HE3 : Hid (mr = true → dn = true → R = (0, ⟨step, phase, fr, dn, vs, ms⟩)) := HE3.out hj
    replace HE4 : Hid (mr = true → dn = false → R = (10, st0)) := fun g1 g2 => HE4.out hj g1 g2 (Decidable.byContradiction fun g3 => HEA.out ⟨hj, g1, g2, g3⟩)
    have HST : Hid (mr = true → dn = false → 100000 ≤ step) := fun g1 g2 => Decidable.byContradiction fun g3 => HEA.out ⟨hj, g1, g2, g3⟩
    rw [hj] at HCK
    clear hj HE1 HEA
    go_enter Try.func11, Try.ntmps11
    go_upto_region 1 with fail
    rw [← hW0]
    clear hW0
    go_wp2_with fail
    refine (HCK.out _ R0.out).mono ?_
    rintro e w1 ⟨rfl, hb1⟩
    have A1 : Hid (Below W0.heap.size W0 w1) := hb1
    clear q0 q1 q2 q3 HCK hb1
    obtain ⟨Q1, T1, _, _⟩ := HK.out _ A1.out
    obtain ⟨q0, q1, q2, q3⟩ := Q1.all4
    obtain ⟨⟨c0, c1, c2, c3, c4, c5⟩, _⟩ := T1.all6
    have hs1 := A1.out.size
    clear Q1 T1
    go_wp2_with fail
    refine (HSM.out _ A1.out).mono ?_
    rintro e w2 ⟨rfl, hb2⟩
    have A2 : Hid (Below W0.heap.size W0 w2) := A1.out.trans (hb2.mono hs1)
    clear q0 q1 q2 q3 c0 c1 c2 c3 c4 c5 hb2 hs1 HSM A1
    obtain ⟨Q2, T2, Z2, hbw⟩ := HK.out _ A2.out
    obtain ⟨q0, q1, q2, q3⟩ := Q2.all4
    obtain ⟨⟨c0, c1, c2, c3, c4, c5⟩, _⟩ := T2.all6
    obtain ⟨⟨d0, d1, d2, d3, d4, d5⟩, e0, e1, e2, e3, e4, e5⟩ := Z2.all6
    have BW : Hid (Below w.heap.size w w2) := hbw
    clear Q2 T2 Z2 hbw
    cases hmr : mr
    · obtain ⟨rx, hp⟩ := HNO.out _ 9 A2.out (HE2.out hmr)
      have HP : Hid (StaP w R (.returned (.tuple #[.agg #[.int .i64 0, .int .i64 0, .bool false, .bool false, .slice none 0 0, .slice none 0 0], .int .i64 9])) (put6 w2 (w.heap.size + 2) (.int .i64 0) (.int .i64 0) (.bool false) (.bool false) (.slice none 0 0) (.slice none 0 0))) := hp
      have RX : Hid (BX 30 (put6 w2 (w.heap.size + 2) (.int .i64 0) (.int .i64 0) (.bool false) (.bool false) (.slice none 0 0) (.slice none 0 0)) (w.heap.size + 2) #[.int .i64 0, .int .i64 0, .bool false, .bool false, .slice none 0 0, .slice none 0 0]) := rx
      clear hmr hp rx
      go_wp2_with fail
      obtain ⟨⟨r0, r1, r2, r3, r4, r5⟩, _⟩ := RX.out.all6
      unfold put6 at r0 r1 r2 r3 r4 r5
      exact bodyPost_ret (v := .tuple #[.agg #[.int .i64 0, .int .i64 0, .bool false, .bool false, .slice none 0 0, .slice none 0 0], .int .i64 9]) (by simp [results, Try.results11, go_sem, r0, r1, r2, r3, r4, r5]) rfl HP.out
    · cases hdn : dn
      · obtain ⟨rx, hp⟩ := HNO.out _ 10 A2.out (HE4.out hmr hdn)
        have hst := HST.out hmr hdn
        have HP : Hid (StaP w R (.returned (.tuple #[.agg #[.int .i64 0, .int .i64 0, .bool false, .bool false, .slice none 0 0, .slice none 0 0], .int .i64 10])) (put6 w2 (w.heap.size + 2) (.int .i64 0) (.int .i64 0) (.bool false) (.bool false) (.slice none 0 0) (.slice none 0 0))) := hp
        have RX : Hid (BX 30 (put6 w2 (w.heap.size + 2) (.int .i64 0) (.int .i64 0) (.bool false) (.bool false) (.slice none 0 0) (.slice none 0 0)) (w.heap.size + 2) #[.int .i64 0, .int .i64 0, .bool false, .bool false, .slice none 0 0, .slice none 0 0]) := rx
        subst hdn
        clear hmr hp rx
        go_wp2_with fail
        obtain ⟨⟨r0, r1, r2, r3, r4, r5⟩, _⟩ := RX.out.all6
        unfold put6 at r0 r1 r2 r3 r4 r5
        exact bodyPost_ret (v := .tuple #[.agg #[.int .i64 0, .int .i64 0, .bool false, .bool false, .slice none 0 0, .slice none 0 0], .int .i64 10]) (by simp [results, Try.results11, go_sem, r0, r1, r2, r3, r4, r5]) rfl HP.out
      · have HRR : Hid (R = (0, ⟨step, phase, fr, dn, vs, ms⟩)) := HE3.out hmr hdn
        have HCC := HSC.out hmr
        have HC2 : Hid (∀ X, Below W0.heap.size W0 X → Calls Try.prog 24 #[.agg #[.int .i64 step, .int .i64 phase, .bool fr, .bool dn, .slice va vs.length vc, .slice ma ms.length mc]] X fun e w' => ∃ v1 v2, e = .returned (.agg #[.int .i64 step, .int .i64 phase, .bool fr, .bool dn, v1, v2]) ∧ w'.ownsRow X.heap.size 59 2 v1 vs.length (vs.flatMap encM) ∧ OwnLi w' X.heap.size v2 ms ∧ Below X.heap.size X w') := HCC
        subst hdn
        clear hmr HE2 HE3 HE4 HCC HST HSC
        go_wp2_with fail
        refine (HC2.out _ A2.out).mono ?_
        rintro e w3 ⟨v1, v2, rfl, hv1, hv2, hb3⟩
        have hs2 := A2.out.size
        have A3 : Hid (Below W0.heap.size W0 w3) := A2.out.trans (hb3.mono hs2)
        obtain ⟨Q3, T3, Z3, hbw⟩ := HK.out _ A3.out
        have VE : Hid ((put6 w3 (w.heap.size + 2) (.int .i64 step) (.int .i64 phase) (.bool fr) (.bool true) v1 v2).ownsRow w.heap.size 59 2 v1 vs.length (vs.flatMap encM)) := own_lower (own_off hv1 Z3 (by decide) (kept_put6 w3 (w.heap.size + 2) _ _ _ _ _ _)) (by omega)
        have ME : Hid (OwnLi (put6 w3 (w.heap.size + 2) (.int .i64 step) (.int .i64 phase) (.bool fr) (.bool true) v1 v2) w.heap.size v2 ms) := (hv2.off Z3 (by decide) (by decide) (kept_put6 w3 (w.heap.size + 2) _ _ _ _ _ _)).lower (by omega)
        have RX : Hid (BX 30 (put6 w3 (w.heap.size + 2) (.int .i64 step) (.int .i64 phase) (.bool fr) (.bool true) v1 v2) (w.heap.size + 2) #[.int .i64 step, .int .i64 phase, .bool fr, .bool true, v1, v2]) := Z3.put6
        have BE : Hid (Below w.heap.size w (put6 w3 (w.heap.size + 2) (.int .i64 step) (.int .i64 phase) (.bool fr) (.bool true) v1 v2)) := below_put6 hbw (by omega) Z3.lt _ _ _ _ _ _
        have HP : Hid (StaP w R (.returned (.tuple #[.agg #[.int .i64 step, .int .i64 phase, .bool fr, .bool true, v1, v2], .int .i64 0])) (put6 w3 (w.heap.size + 2) (.int .i64 step) (.int .i64 phase) (.bool fr) (.bool true) v1 v2)) := by
          show StaP _ _ _ _
          rw [HRR.out]
          exact StaP.yes (t := ⟨step, phase, fr, true, vs, ms⟩) VE.out ME.out BE.out
        clear q0 q1 q2 q3 c0 c1 c2 c3 c4 c5 d0 d1 d2 d3 d4 d5 e0 e1 e2 e3 e4 e5
        obtain ⟨⟨d0, d1, d2, d3, d4, d5⟩, e0, e1, e2, e3, e4, e5⟩ := Z3.all6
        obtain ⟨a1, n1, k1, rfl⟩ : ∃ a n c, v1 = .slice a n c := by
          rcases own_shapeK hv1 with ⟨e, _⟩ | ⟨g', c', e, _⟩
          · exact ⟨_, _, _, e⟩
          · exact ⟨_, _, _, e⟩
        obtain ⟨a2, k2, rfl⟩ := hv2.shape
        clear hv1 hv2 hb3 hs2 Q3 T3 Z3 hbw
        go_wp2_with fail
        obtain ⟨⟨r0, r1, r2, r3, r4, r5⟩, _⟩ := RX.out.all6
        unfold put6 at r0 r1 r2 r3 r4 r5
        exact bodyPost_ret (v := .tuple #[.agg #[.int .i64 step, .int .i64 phase, .bool fr, .bool true, .slice a1 n1 k1, .slice a2 ms.length k2], .int .i64 0]) (by simp [results, Try.results11, go_sem, r0, r1, r2, r3, r4, r5]) rfl HP.out
  · have HEE : R = (jobE n es k s, st0) := HE1.out hj
    generalize jobE n es k s = je at *
    have t0 : (je != 0) = true := by simpa using hj
    have HRE : Hid (R = (je, st0)) := HEE
    clear hj HE1 HE2 HE3 HE4 HSM HEE HEA HSC
    go_enter Try.func11, Try.ntmps11
    go_upto_region 1 with fail
    rw [← hW0]
    clear hW0
    go_wp2_with fail
    refine (HCK.out _ R0.out).mono ?_
    rintro e w1 ⟨rfl, hb1⟩
    obtain ⟨rx, hp⟩ := HNO.out _ je hb1 HRE.out
    have HP : Hid (StaP w R (.returned (.tuple #[.agg #[.int .i64 0, .int .i64 0, .bool false, .bool false, .slice none 0 0, .slice none 0 0], .int .i64 je])) (put6 w1 (w.heap.size + 2) (.int .i64 0) (.int .i64 0) (.bool false) (.bool false) (.slice none 0 0) (.slice none 0 0))) := hp
    have RX : Hid (BX 30 (put6 w1 (w.heap.size + 2) (.int .i64 0) (.int .i64 0) (.bool false) (.bool false) (.slice none 0 0) (.slice none 0 0)) (w.heap.size + 2) #[.int .i64 0, .int .i64 0, .bool false, .bool false, .slice none 0 0, .slice none 0 0]) := rx
    obtain ⟨_, _, Z1, _⟩ := HK.out _ hb1
    obtain ⟨⟨d0, d1, d2, d3, d4, d5⟩, e0, e1, e2, e3, e4, e5⟩ := Z1.all6
    clear hb1 q0 q1 q2 q3 HCK hp rx Z1
    go_wp2_with fail
    obtain ⟨⟨r0, r1, r2, r3, r4, r5⟩, _⟩ := RX.out.all6
    unfold put6 at r0 r1 r2 r3 r4 r5
    exact bodyPost_ret (v := .tuple #[.agg #[.int .i64 0, .int .i64 0, .bool false, .bool false, .slice none 0 0, .slice none 0 0], .int .i64 je]) (by simp [results, Try.results11, go_sem, r0, r1, r2, r3, r4, r5]) rfl HP.out
end Go.Proofs.Ytbmkgnlfccigpaa
