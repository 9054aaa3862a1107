/-
  Contract of the document's own StateMay.
-/
import Derived.Test.YtbmkgnlfccigpaaStaMem
import Derived.Test.YtbmkgnlfccigpaaMayMath
import Derived.Test.YtbmkgnlfccigpaaRefProg
import Derived.Test.YtbmkgnlfccigpaaRowMem
import Derived.Deep.CutRange
import Derived.BigQuiet
namespace Go.Proofs.Ytbmkgnlfccigpaa
set_option maxRecDepth 100000
open Go.ChangeShapes Go.WideShapes Go.ChangeAt Go.RowKit Go.Sort

set_option maxHeartbeats 4000000 in
set_option maxRecDepth 100000 in
theorem stateMay_any (ea : Option Addr) (el ec m : Nat) (k s : Int) (T : StS) (vv vm : Value) (w : World) (hv : MlR w vv T.vals) (hm : LiR w vm T.mail) (hn : m ≤ 200) (hml : ∀ l ∈ T.mail, l.length ≤ 140737488355328) :
    Calls Try.prog 29 #[.agg #[.int .i64 (m : Int), .slice ea el ec, .int .i64 k, .int .i64 s], .agg #[.int .i64 T.step, .int .i64 T.phase, .bool T.fresh, .bool T.done, vv, vm]] w fun e w' => e = .returned (.bool (mayR m k T)) ∧ Below w.heap.size w w' := by
  obtain ⟨step, phase, fr, dn, vs, ms⟩ := T
  simp only at hv hm hml ⊢
  have HML : Hid (∀ l ∈ ms, l.length ≤ 140737488355328) := hml
  clear hml
  have HV : Hid (MlR w vv vs) := hv
  have HM : Hid (LiR w vm ms) := hm
  obtain ⟨va, vc, rfl, hvc, hvm, _, _⟩ := hv
  obtain ⟨ma, mc, rfl, hmc, hmm, _⟩ := hm
  unfold maxLen at hvm hmm
  obtain ⟨W0, hW0⟩ : ∃ W0, W0 = (w.alloc (.cells #[.int .i64 (m : Int), .slice ea el ec, .int .i64 k, .int .i64 s] 26)).alloc (.cells #[.int .i64 step, .int .i64 phase, .bool fr, .bool dn, .slice va vs.length vc, .slice ma ms.length mc] 30) := ⟨_, rfl⟩
  obtain ⟨Q0, T0, B0, s1, s2⟩ := boxes2 w #[.int .i64 (m : Int), .slice ea el ec, .int .i64 k, .int .i64 s] #[.int .i64 step, .int .i64 phase, .bool fr, .bool dn, .slice va vs.length vc, .slice ma ms.length mc] 26 30 W0 hW0
  have BH : Hid (Below w.heap.size w W0) := B0
  have HK : Hid (∀ X, Below W0.heap.size W0 X → BX 26 X w.heap.size #[.int .i64 (m : Int), .slice ea el ec, .int .i64 k, .int .i64 s] ∧ BX 30 X (w.heap.size + 1) #[.int .i64 step, .int .i64 phase, .bool fr, .bool dn, .slice va vs.length vc, .slice ma ms.length mc] ∧ Below w.heap.size w X) := fun X hX => ⟨Q0.below hX (by omega), T0.below hX (by omega), BH.out.trans (hX.mono (by omega))⟩
  obtain ⟨q0, q1, q2, q3⟩ := Q0.all4
  obtain ⟨⟨c0, c1, c2, c3, c4, c5⟩, _⟩ := T0.all6
  clear Q0 T0 B0
  cases hst : inB step 0 100000 with
  | false =>
    have HE : Hid (mayR m k ⟨step, phase, fr, dn, vs, ms⟩ = false) := mayR_step hst
    have CS : Hid (∀ X, Calls Try.prog 52 #[.int .i64 step, .int .i64 0, .int .i64 100000] X fun e w' => e = .returned (.bool false) ∧ w' = X) := fun X => in_is hst X
    generalize mayR m k ⟨step, phase, fr, dn, vs, ms⟩ = r at *
    go_enter Try.func29, Try.ntmps29
    go_upto_region 1 with fail
    rw [← hW0]
    clear hW0
    go_wp2_with fail
    refine (CS.out _).mono ?_
    rintro e w2 ⟨rfl, hw⟩
    replace hw := hw.symm
    subst hw
    go_wp2_with fail
    go_ret
    exact ⟨by rw [HE.out]; rfl, BH.out⟩
  | true =>
    have CS : Hid (∀ X, Calls Try.prog 52 #[.int .i64 step, .int .i64 0, .int .i64 100000] X fun e w' => e = .returned (.bool true) ∧ w' = X) := fun X => in_is hst X
    rcases jobF_cases k phase with ⟨hj, hj'⟩ | ⟨j, rfl, rfl⟩
    · have HE : Hid (mayR m k ⟨step, phase, fr, dn, vs, ms⟩ = false) := mayR_none hj
      have CK : Hid (∀ X, Calls Try.prog 53 #[.int .i64 k, .int .i64 phase] X fun e w' => e = .returned (.bool false) ∧ w' = X) := fun X => kindMay_none hj' X
      generalize mayR m k ⟨step, phase, fr, dn, vs, ms⟩ = r at *
      clear hj hj'
      go_enter Try.func29, Try.ntmps29
      go_upto_region 1 with fail
      rw [← hW0]
      clear hW0
      go_wp2_with fail
      refine (CS.out _).mono ?_
      rintro e w2 ⟨rfl, hw⟩
      replace hw := hw.symm
      subst hw
      go_wp2_with fail
      refine (CK.out _).mono ?_
      rintro e w2 ⟨rfl, hw⟩
      replace hw := hw.symm
      subst hw
      go_wp2_with fail
      go_ret
      exact ⟨by rw [HE.out]; rfl, BH.out⟩
    · have CK : Hid (∀ X, Calls Try.prog 53 #[.int .i64 (Jb.k j), .int .i64 (Jb.p j)] X fun e w' => e = .returned (.bool true) ∧ w' = X) := fun X => kindMay_any j X
      have HJF : Hid (jobF (Jb.k j) (Jb.p j) = some j) := jobF_of j
      have CT : Hid (∀ X, Calls Try.prog 55 #[.int .i64 (Jb.k j)] X fun e w' => e = .returned (.int .i64 (Jb.top j)) ∧ w' = X) := fun X => topR_any j X
      have CV : Hid (∀ (x : Ml) X, Calls Try.prog 54 #[.int .i64 (Jb.k j), .agg #[.int .i64 x.1, .int .i64 x.2]] X fun e w' => e = .returned (.bool (valB j x)) ∧ Below X.heap.size X w') := fun x X => valueMay_any j x X
      generalize Jb.k j = kk at *
      generalize Jb.p j = pp at *
      by_cases hlv : vs.length = m
      · by_cases hlm : ms.length = m
        · have HE : Hid (mayR m kk ⟨step, pp, fr, dn, vs, ms⟩ = ((vs.all fun x => valB j x) && (ms.all fun l => mlOk j l) && !(fr && dn) && !(decide (0 < manyL ms) && (fr || dn)) && decide (manyL ms ≤ 5000))) := mayR_of (t := ⟨step, pp, fr, dn, vs, ms⟩) HJF.out hst hlv hlm
          obtain ⟨r, hr⟩ : ∃ r, mayR m kk ⟨step, pp, fr, dn, vs, ms⟩ = r := ⟨_, rfl⟩
          rw [hr] at HE ⊢
          have HFV : Hid (∀ (a : Nat) (x : Ml), vs[a]? = some x → valB j x = false → r = false) := fun a x hx hb => by
            rw [HE.out, show (vs.all fun x => valB j x) = false from by rw [Bool.eq_false_iff]; intro g; have := List.all_eq_true.1 g x (List.mem_of_getElem? hx); rw [hb] at this; cases this]
            rfl
          have HFM : Hid (∀ (a : Nat) (l : List Int), ms[a]? = some l → mlOk j l = false → r = false) := fun a l hl hb => by
            rw [HE.out, show (ms.all fun l => mlOk j l) = false from by rw [Bool.eq_false_iff]; intro g; have := List.all_eq_true.1 g l (List.mem_of_getElem? hl); rw [hb] at this; cases this]
            simp
          have HOK : Hid ((∀ (a : Nat) (x : Ml), vs[a]? = some x → valB j x = true) → (∀ (a : Nat) (l : List Int), ms[a]? = some l → mlOk j l = true) → r = (!(fr && dn) && !(decide (0 < manyL ms) && (fr || dn)) && decide (manyL ms ≤ 5000))) := fun h1 h2 => by
            rw [HE.out, show (vs.all fun x => valB j x) = true from List.all_eq_true.2 fun x hx => by obtain ⟨i, hi, rfl⟩ := List.getElem_of_mem hx; exact h1 i _ (List.getElem?_eq_getElem hi), show (ms.all fun l => mlOk j l) = true from List.all_eq_true.2 fun x hx => by obtain ⟨i, hi, rfl⟩ := List.getElem_of_mem hx; exact h2 i _ (List.getElem?_eq_getElem hi)]
            simp
          have HLV : Hid (vs.length = m) := hlv
          have HLM : Hid (ms.length = m) := hlm
          have t1 : ((vs.length : Int) != (m : Int)) = false := by simp; omega
          have t2 : ((ms.length : Int) != (m : Int)) = false := by simp; omega
          have z1 : m ≤ vs.length := by omega
          have z2 : m ≤ ms.length := by omega
          have HMT : Hid (∀ a, a ≤ m → manyL (ms.take a) ≤ 28147497671065600) := fun a ha => by
            have h1 := manyL_most (m := ms.take a) (B := 140737488355328) fun l hl => HML.out l (List.mem_of_mem_take hl)
            have h2 : (ms.take a).length ≤ 200 := by rw [List.length_take]; omega
            have h3 : (ms.take a).length * 140737488355328 ≤ 200 * 140737488355328 := Nat.mul_le_mul_right _ h2
            omega
          clear hlv hlm hr HE HJF
          go_enter Try.func29, Try.ntmps29
          go_upto_region 1 with fail
          rw [← hW0]
          clear hW0
          go_wp2_with fail
          refine (CS.out _).mono ?_
          rintro e w2 ⟨rfl, hw⟩
          replace hw := hw.symm
          subst hw
          go_wp2_with fail
          refine (CK.out _).mono ?_
          rintro e w2 ⟨rfl, hw⟩
          replace hw := hw.symm
          subst hw
          go_wp2_with fail
          clear t1 t2 q0 q1 q2 q3 c0 c1 c2 c3 c4 c5
          go_loopw [5, 6] (fun mn i wr => ∃ a : Nat, a ≤ m ∧ i = .int .i64 a ∧ mn = .int .i64 (manyL (ms.take a) : Nat) ∧ (∀ (b : Nat) (x : Ml), b < a → vs[b]? = some x → valB j x = true) ∧ (∀ (b : Nat) (l : List Int), b < a → ms[b]? = some l → mlOk j l = true) ∧ Below W0.heap.size W0 wr) (fun _ i _ => m - (intOf i).toNat)
          case atStart => exact ⟨0, by omega, rfl, rfl, fun b x h => by omega, fun b l h => by omega, Below.refl _ _⟩
          case round =>
            obtain ⟨a, ha, rfl, rfl, hA, hB, hbel⟩ := hrel
            have AV : Hid (∀ (b : Nat) (x : Ml), b < a → vs[b]? = some x → valB j x = true) := hA
            have AM : Hid (∀ (b : Nat) (l : List Int), b < a → ms[b]? = some l → mlOk j l = true) := hB
            have AB : Hid (Below W0.heap.size W0 wr) := hbel
            have hmt := HMT.out a ha
            obtain ⟨Q1, T1, _⟩ := HK.out _ hbel
            obtain ⟨q0, q1, q2, q3⟩ := Q1.all4
            obtain ⟨⟨c0, c1, c2, c3, c4, c5⟩, _⟩ := T1.all6
            clear hA hB hbel Q1 T1
            by_cases hlt : a < m
            · obtain ⟨_, _, hbw⟩ := HK.out _ AB.out
              have HVX : Hid (∀ X, Below W0.heap.size W0 X → MlR X (.slice va vs.length vc) vs ∧ LiR X (.slice ma ms.length mc) ms) := fun X hX => ⟨HV.out.below (HK.out _ hX).2.2 (Nat.le_refl _), HM.out.below (HK.out _ hX).2.2 (Nat.le_refl _)⟩
              obtain ⟨RV, RM⟩ := HVX.out _ AB.out
              obtain ⟨b1, o1, cap1, e1, lt1, hv1⟩ := MlR.read RV (by omega)
              injection e1 with e1 _ e3
              subst e1 e3
              obtain ⟨b2, o2, cap2, e1, lt2, _, _, hv2⟩ := LiR.at RM (by omega)
              injection e1 with e1 _ e3
              subst e1 e3
              have hlv' := HLV.out
              have hlm' := HLM.out
              obtain ⟨x, hx⟩ : ∃ x, vs[a]? = some x := ⟨_, List.getElem?_eq_getElem (by omega)⟩
              obtain ⟨l, hl⟩ : ∃ l, ms[a]? = some l := ⟨_, List.getElem?_eq_getElem (by omega)⟩
              obtain ⟨d0, d1⟩ := hv1 a x hx
              obtain ⟨u, hu, RI⟩ := hv2 a l hl
              have HX : Hid (vs[a]? = some x) := hx
              have HL : Hid (ms[a]? = some l) := hl
              have p0 : (0 : Int) ≤ (a : Int) := by omega
              have p1 : (a : Int) < (vs.length : Int) := by omega
              have p2 : (a : Int) < (ms.length : Int) := by omega
              have p3 : (a : Int) < (m : Int) := by omega
              clear hv1 hv2 RV RM hbw hx hl RI hu hlv' hlm'
              go_upto_region 7 with fail
              have g0 := cell_regrown d0
              have g1 := cell_regrown d1
              have EE : ∀ d os, Calls Try.prog 54 #[.int .i64 kk, .agg #[.int .i64 x.1, .int .i64 x.2]] (grow (redrawn wr d) os) fun e w'' => e = .returned (.bool (valB j x)) ∧ ∃ p : Regrown, w'' = grow (redrawn wr p.d) p.os := fun d os => Calls.regrown_of (CV.out x _)
              have gq := cell_regrown q2
              have gc := cell_regrown c4
              refine wp_region_quiet_below (by kernel_rfl) (by kernel_rfl) ?_
              repeat (quiet_step (exact EE _ _))
              refine wpQuiet_nil ?_
              intro _ hw'
              obtain ⟨⟨dq, osq⟩, hw''⟩ := hw'
              subst hw''
              have HB9 : Hid (Below wr.heap.size wr (grow (redrawn wr dq) osq)) := below_regrown _ _ _
              generalize grow (redrawn wr dq) osq = W9 at HB9 ⊢
              have A9 : Hid (Below W0.heap.size W0 W9) := AB.out.trans (HB9.out.mono AB.out.size)
              clear g0 g1 gq gc EE q0 q1 q2 q3 c0 c1 c2 c3 c4 c5 d0 d1
              cases hvb : valB j x
              · have HR : Hid (r = false) := HFV.out a x HX.out hvb
                have HBW : Hid (Below w.heap.size w W9) := (HK.out _ A9.out).2.2
                go_wp2_with fail
                go_ret
                exact ⟨by rw [HR.out]; rfl, HBW.out⟩
              · obtain ⟨Q1, T1, _⟩ := HK.out _ A9.out
                obtain ⟨q0, q1, q2, q3⟩ := Q1.all4
                obtain ⟨⟨c0, c1, c2, c3, c4, c5⟩, _⟩ := T1.all6
                clear Q1 T1
                obtain ⟨_, RM⟩ := HVX.out _ A9.out
                obtain ⟨b3, o3, cap2, e1, lt3, _, _, hv3⟩ := LiR.at RM (by omega)
                injection e1 with e1 _ e3
                injection e1 with e1
                injection e1 with e1 e4 _
                subst e1 e3 e4
                obtain ⟨u, hu, RI⟩ := hv3 a l HL.out
                have HRI : Hid (InR W9 u l) := RI
                obtain ⟨la, lc, rfl, hlc, hlm2, _, _⟩ := RI
                unfold maxLen at hlm2
                have HVB : Hid (valB j x = true) := hvb
                clear hv3 RM hvb
                go_wp2_with fail
                clear q0 q1 q2 q3 c0 c1 c2 c3 c4 c5 hu
                go_loopw [8] (fun i wr => ∃ c : Nat, c ≤ l.length ∧ i = .int .i64 c ∧ mlPre j l c ∧ Below W9.heap.size W9 wr) (fun i _ => l.length - (intOf i).toNat)
                case atStart => exact ⟨0, by omega, rfl, mlPre_zero j l, Below.refl _ _⟩
                case round =>
                  obtain ⟨c, hc, rfl, hP, hbel⟩ := hrel
                  have HP : Hid (mlPre j l c) := hP
                  have A10 : Hid (Below W9.heap.size W9 wr) := hbel
                  have A11 : Hid (Below W0.heap.size W0 wr) := A9.out.trans (hbel.mono A9.out.size)
                  have RI : InR wr (.slice la l.length lc) l := HRI.out.below hbel (Nat.le_refl _)
                  clear hP hbel
                  obtain ⟨Q1, T1, hbw⟩ := HK.out _ A11.out
                  obtain ⟨q0, q1, q2, q3⟩ := Q1.all4
                  have HBW : Hid (Below w.heap.size w wr) := hbw
                  clear hbw T1 Q1
                  by_cases hlc2 : c < l.length
                  · obtain ⟨b4, o4, cap4, e1, _, _, lt4, hv4⟩ := InR.at RI (by omega)
                    injection e1 with e1 _ e3
                    subst e1 e3
                    obtain ⟨y, hy⟩ : ∃ y, l[c]? = some y := ⟨_, List.getElem?_eq_getElem hlc2⟩
                    have k1 := hv4 c y hy
                    have HY : Hid (l[c]? = some y) := hy
                    have r0 : (0 : Int) ≤ (c : Int) := by omega
                    have r1 : (c : Int) < (l.length : Int) := by omega
                    cases hin : inB y 0 (Jb.top j)
                    · have HR : Hid (r = false) := HFM.out a l HL.out (mlOk_out HY.out fun g => by rw [inB_iff.2 g] at hin; cases hin)
                      have C2 : Hid (∀ X, Calls Try.prog 52 #[.int .i64 y, .int .i64 0, .int .i64 (Jb.top j)] X fun e w' => e = .returned (.bool false) ∧ w' = X) := fun X => in_is hin X
                      clear hin hy hv4 RI
                      generalize Jb.top j = TT at *
                      go_wp2_with fail
                      go_quiet (first | (go_at_call 55; exact Calls.quiet_of_same (CT.out _)) | (go_at_call 52; exact Calls.quiet_of_same (C2.out _)))
                      go_wp2_with fail
                      go_ret
                      exact ⟨by rw [HR.out]; rfl, below_drewN HBW.out _⟩
                    · have C2 : Hid (∀ X, Calls Try.prog 52 #[.int .i64 y, .int .i64 0, .int .i64 (Jb.top j)] X fun e w' => e = .returned (.bool true) ∧ w' = X) := fun X => in_is hin X
                      have HIN : Hid (0 ≤ y ∧ y ≤ Jb.top j) := inB_iff.1 hin
                      by_cases hc0 : c = 0
                      · subst hc0
                        rw [Nat.add_zero] at k1
                        have HN : Hid (mlPre j l (0 + 1)) := mlPre_next HP.out HY.out HIN.out fun x h => by omega
                        clear hin hy hv4 RI
                        generalize Jb.top j = TT at *
                        go_wp2_with fail
                        go_quiet (first | (go_at_call 55; exact Calls.quiet_of_same (CT.out _)) | (go_at_call 52; exact Calls.quiet_of_same (C2.out _)))
                        go_wp2_with fail
                        go_roundw
                        case rel => exact ⟨0 + 1, by omega, by go_num, HN.out, below_drewN A10.out _⟩
                        case measure => simp [intOf]; omega
                      · obtain ⟨y', hy'⟩ : ∃ y, l[c - 1]? = some y := ⟨_, List.getElem?_eq_getElem (by omega)⟩
                        have k2 := hv4 (c - 1) y' hy'
                        have ec : ((c : Int) - 1) = ((c - 1 : Nat) : Int) := by omega
                        have r2 : (0 : Int) ≤ ((c - 1 : Nat) : Int) := by omega
                        have r3 : ((c - 1 : Nat) : Int) < (l.length : Int) := by omega
                        have hpos : 0 < c := by omega
                        by_cases hf : y < y'
                        · have HR : Hid (r = false) := HFM.out a l HL.out (mlOk_fall (by omega) hy' HY.out hf)
                          clear hin hy hv4 RI hy'
                          generalize Jb.top j = TT at *
                          go_wp2_with fail
                          go_quiet (first | (go_at_call 55; exact Calls.quiet_of_same (CT.out _)) | (go_at_call 52; exact Calls.quiet_of_same (C2.out _)))
                          go_wp2_with fail
                          go_ret
                          exact ⟨by rw [HR.out]; rfl, below_drewN HBW.out _⟩
                        · have HN : Hid (mlPre j l (c + 1)) := mlPre_next HP.out HY.out HIN.out fun x _ h => by rw [hy'] at h; injection h with h; omega
                          clear hin hy hv4 RI hy'
                          generalize Jb.top j = TT at *
                          go_wp2_with fail
                          go_quiet (first | (go_at_call 55; exact Calls.quiet_of_same (CT.out _)) | (go_at_call 52; exact Calls.quiet_of_same (C2.out _)))
                          go_wp2_with fail
                          go_roundw
                          case rel => exact ⟨c + 1, by omega, by go_num, HN.out, below_drewN A10.out _⟩
                          case measure => simp [intOf]; omega
                  · have ecl : c = l.length := by omega
                    subst ecl
                    have HN : Hid (mlOk j l = true) := mlPre_all HP.out
                    have hmt1 := HMT.out (a + 1) (by omega)
                    have HMA : Hid (manyL (ms.take (a + 1)) = manyL (ms.take a) + l.length) := manyL_take HL.out
                    rw [HMA.out] at hmt1
                    clear RI
                    go_wp2_with fail
                    go_roundw
                    case rel =>
                      refine ⟨a + 1, by omega, by go_num, by rw [HMA.out]; go_num, fun b x' hb hx' => ?_, fun b l' hb hl' => ?_, A11.out⟩
                      · by_cases e : b = a
                        · subst e
                          rw [HX.out] at hx'
                          injection hx' with hx'
                          subst hx'
                          exact HVB.out
                        · exact AV.out b x' (by omega) hx'
                      · by_cases e : b = a
                        · subst e
                          rw [HL.out] at hl'
                          injection hl' with hl'
                          subst hl'
                          exact HN.out
                        · exact AM.out b l' (by omega) hl'
                    case measure => simp [intOf]; omega
            · have ea' : a = m := by omega
              subst ea'
              have hOK := HOK.out (fun b x hx => AV.out b x (by have := (List.getElem?_eq_some_iff.1 hx).1; have := HLV.out; omega) hx) fun b l hl => AM.out b l (by have := (List.getElem?_eq_some_iff.1 hl).1; have := HLM.out; omega) hl
              have hfull : ms.take a = ms := List.take_of_length_le (by have := HLM.out; omega)
              rw [hfull] at hmt ⊢
              have HR : Hid (r = (!(fr && dn) && !(decide (0 < manyL ms) && (fr || dn)) && decide (manyL ms ≤ 5000))) := hOK
              have HBW : Hid (Below w.heap.size w wr) := (HK.out _ AB.out).2.2
              clear hOK hfull
              generalize manyL ms = mm at *
              by_cases h0 : 0 < mm
              · by_cases h5 : mm ≤ 5000
                all_goals cases fr
                all_goals cases dn
                all_goals go_wp2_with fail
                all_goals go_ret
                all_goals exact ⟨by rw [HR.out]; simp [h0, h5] <;> omega, HBW.out⟩
              · have e0 : mm = 0 := by omega
                subst e0
                cases fr
                all_goals cases dn
                all_goals go_wp2_with fail
                all_goals go_ret
                all_goals exact ⟨by rw [HR.out]; simp, HBW.out⟩
        · have HE : Hid (mayR m kk ⟨step, pp, fr, dn, vs, ms⟩ = false) := mayR_len fun g => hlm g.2
          generalize mayR m kk ⟨step, pp, fr, dn, vs, ms⟩ = r at *
          have t1 : ((vs.length : Int) != (m : Int)) = false := by simp; omega
          have t2 : ((ms.length : Int) != (m : Int)) = true := by simp; omega
          clear hlv hlm
          go_enter Try.func29, Try.ntmps29
          go_upto_region 1 with fail
          rw [← hW0]
          clear hW0
          go_wp2_with fail
          refine (CS.out _).mono ?_
          rintro e w2 ⟨rfl, hw⟩
          replace hw := hw.symm
          subst hw
          go_wp2_with fail
          refine (CK.out _).mono ?_
          rintro e w2 ⟨rfl, hw⟩
          replace hw := hw.symm
          subst hw
          go_wp2_with fail
          go_ret
          exact ⟨by rw [HE.out]; rfl, BH.out⟩
      · have HE : Hid (mayR m kk ⟨step, pp, fr, dn, vs, ms⟩ = false) := mayR_len fun g => hlv g.1
        generalize mayR m kk ⟨step, pp, fr, dn, vs, ms⟩ = r at *
        have t1 : ((vs.length : Int) != (m : Int)) = true := by simp; omega
        clear hlv
        go_enter Try.func29, Try.ntmps29
        go_upto_region 1 with fail
        rw [← hW0]
        clear hW0
        go_wp2_with fail
        refine (CS.out _).mono ?_
        rintro e w2 ⟨rfl, hw⟩
        replace hw := hw.symm
        subst hw
        go_wp2_with fail
        refine (CK.out _).mono ?_
        rintro e w2 ⟨rfl, hw⟩
        replace hw := hw.symm
        subst hw
        go_wp2_with fail
        go_ret
        exact ⟨by rw [HE.out]; rfl, BH.out⟩
end Go.Proofs.Ytbmkgnlfccigpaa
