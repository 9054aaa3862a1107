/-
  For every number, ways, kind and source a job over a graph that is made of them may be run round by round, and behind its end nothing changes (the law RoundsSteps returns true, and its arguments read as before); no condition.
-/
import Derived.Test.YtbmkgnlfccigpaaWayOpen
import Derived.Test.YtbmkgnlfccigpaaRoundsStepsPartA
import Derived.Test.YtbmkgnlfccigpaaRoundsStepsPartB
import Derived.WalkKit
import Derived.ProofKit
import Derived.OpenShut
import Derived.ShutString
import Derived.SizedLaws
import Derived.ChangeOld
import Derived.Below
namespace Go.Proofs.Ytbmkgnlfccigpaa.roundsSteps
set_option maxRecDepth 100000
open Go.ChangeShapes Go.WideShapes Go.ChangeAt Go.RowKit

theorem own : ownKnob Try.prog.godebug = none := by kernel_rfl
theorem laidOut : laidOutB Try.prog = true := by kernel_rfl

set_option maxHeartbeats 8000000 in
set_option maxRecDepth 100000 in
theorem walk (n0 : Int) (v1 : Value) (es1 : List Ed) (n2 : Int) (n3 : Int) (n4 : Int) (w : World) (hI0 : -9223372036854775808 ≤ n0 ∧ n0 ≤ 9223372036854775807) (hR1 : EdR w v1 es1) (hB1 : ∀ x ∈ es1, edB x) (hL1 : es1.length * 24 ≤ 140737488351232) (hI2 : -9223372036854775808 ≤ n2 ∧ n2 ≤ 9223372036854775807) (hI3 : -9223372036854775808 ≤ n3 ∧ n3 ≤ 9223372036854775807) (hI4 : -9223372036854775808 ≤ n4 ∧ n4 ≤ 9223372036854775807) :
    Calls Try.prog 7 #[.int .i64 n0, v1, .int .i64 n2, .int .i64 n3, .int .i64 n4] w fun e w' => e = .returned (.bool true) ∧ Below w.heap.size w w' := by
  have _u := hI0
  clear _u
  have _u := hR1
  clear _u
  have _u := hB1
  clear _u
  have _u := hL1
  clear _u
  have _u := hI2
  clear _u
  have _u := hI3
  clear _u
  have _u := hI4
  clear _u
  have HR : Hid (EdR w v1 es1) := hR1
  have hpb := pickF_bd n0 6 (by omega)
  have hpk := pickF_bd n2 3 (by omega)
  have CJ : Hid (∀ X, EdR X v1 es1 → Calls Try.prog 21 #[.int .i64 n0, v1, .int .i64 n2, .int .i64 n3] X fun e w' => ∃ aa ac, e = .returned (.agg #[.int .i64 (1 + pickF n0 6), .slice aa (madeL (1 + pickF n0 6) es1).length ac, .int .i64 (1 + pickF n2 3), .int .i64 (pickF n3 (1 + pickF n0 6))]) ∧ EdR w' (.slice aa (madeL (1 + pickF n0 6) es1).length ac) (madeL (1 + pickF n0 6) es1) ∧ Below X.heap.size X w') := fun X hX => (kjob_any n0 n2 n3 v1 es1 X hX hB1 hI0 hI2 hI3).mono fun e w' ⟨v', h1, h2, h3⟩ => by
    have h4 : EdR w' v' (madeL (1 + pickF n0 6) es1) := RowK.own encE_len h2
    obtain ⟨aa, ac, rfl⟩ := h4.shape
    exact ⟨aa, ac, h1, h4, h3⟩
  have F0 : Hid (faultE (1 + pickF n0 6) (madeL (1 + pickF n0 6) es1) = 0) := made_right (by omega) (by omega)
  have HW9 : Hid (∀ e ∈ madeL (1 + pickF n0 6) es1, e.2.2 ≤ 9) := made_wgt
  have hEl := made_len (1 + pickF n0 6) es1
  have hn0 : 0 < 1 + pickF n0 6 := by omega
  have hn8 : 1 + pickF n0 6 ≤ 6 := by omega
  have hps0 := pickF_bd n3 (1 + pickF n0 6) hn0
  generalize madeL (1 + pickF n0 6) es1 = E at *
  generalize pickF n3 (1 + pickF n0 6) = pv at *
  generalize 1 + pickF n0 6 = N at *
  obtain ⟨m, rfl⟩ : ∃ m : Nat, N = m := ⟨N.toNat, by omega⟩
  have hk3 : 1 ≤ 1 + pickF n2 3 ∧ 1 + pickF n2 3 ≤ 3 := by omega
  generalize 1 + pickF n2 3 = k at *
  have hm0 : 0 < m := by omega
  have HG : Hid (InG m E) := in_fault F0.out
  have HJE : Hid (jobE (m : Int) E k pv = 0) := jobE_ok F0.out hk3 (fun _ => hps0)
  obtain ⟨i0, T, hi1, hi2, hG, hdn, hst, hvl⟩ := job_rounds hm0 (by omega) hk3 hps0 HG.out HW9.out
  have HST : Hid (StI m E k pv i0 T 0 (beginS m)) := StI.start hk3 hG
  have HGO : Hid (∀ (q : Nat) (t : StS), StI m E k pv i0 T q t → t.done = false → q < i0 ∧ ∃ t', nextE m E k pv t = (0, t') ∧ StI m E k pv i0 T (q + 1) t') := fun q t h hd => h.go (by omega) HG.out (by omega) (by omega) hdn hd
  have HFN : Hid (∀ (q : Nat) (t : StS), StI m E k pv i0 T q t → t.done = true → t = T ∧ q = i0) := fun q t h hd => h.fin hd
  have CR : Hid (∀ X v, EdR X v E → Calls Try.prog 13 #[.agg #[.int .i64 m, v, .int .i64 k, .int .i64 pv]] X (StaP X (0, T))) := fun X v hX => by
    have h1 := rRun_any v E m k pv X hX
    rw [(ranT_of HJE.out HG.out hG (by omega) hdn).ran] at h1
    exact h1
  have CB : Hid (∀ X v, EdR X v E → Calls Try.prog 22 #[.agg #[.int .i64 m, v, .int .i64 k, .int .i64 pv]] X (StaP X (0, beginS m))) := fun X v hX => by
    have h1 := rBegin_any v E m k pv X hX
    have h2 : begE (m : Int) E k pv = (0, beginS m) := by unfold begE; rw [if_pos HJE.out, Int.toNat_natCast]
    rw [h2] at h1
    exact h1
  have CN : Hid (∀ X v (t t' : StS) va ma, nextE m E k pv t = (0, t') → EdR X v E → MlR X va t.vals → LiR X ma t.mail → Calls Try.prog 9 #[.agg #[.int .i64 m, v, .int .i64 k, .int .i64 pv], .agg #[.int .i64 t.step, .int .i64 t.phase, .bool t.fresh, .bool t.done, va, ma]] X (StaP X (0, t'))) := fun X v t t' va ma hn h1 h2 h3 => by
    have h4 := rNext_any v E m k pv t va ma X h1 h2 h3
    have h5 : folE (m : Int) E k pv t = (0, t') := by unfold folE; rw [if_neg (by simp [HJE.out]), Int.toNat_natCast, hn]
    rw [h5] at h4
    exact h4
  generalize beginS m = t0 at *
  have CP : Hid (∀ X, Calls Try.prog 16 #[.int .i64 n4, .int .i64 4] X fun e w' => e = .returned (.int .i64 (pickF n4 4)) ∧ X = w') := fun X => (picked_any n4 4 X hI4.1 hI4.2 (by omega) (by omega)).mono fun e w' h => ⟨h.1, h.2.symm⟩
  have hp4 := pickF_bd n4 4 (by omega)
  generalize pickF n4 4 = mo at *
  obtain ⟨mo, rfl⟩ : ∃ q : Nat, mo = q := ⟨mo.toNat, by omega⟩
  have HEN : Hid (∀ (q : Nat) (t : StS), StI m E k pv i0 T q t → t.done = true → nextE m E k pv t = (0, t)) := fun q t h hd => h.end' hd
  have HDT : Hid (T.done = true) := hdn
  have HTS : Hid (T.step = i0) := hst
  have hi3 : i0 < 200 := by omega
  clear hpb hpk hB1 hL1 hI0 hI2 hI3 hI4 F0 HW9 hps0 HG HJE hG hdn hst hvl
  obtain ⟨a, cap, rfl⟩ := hR1.shape
  clear hR1
  go_enter Try.func7, Try.ntmps7
  go_wp2_with fail
  refine (CJ.out _ HR.out).mono ?_
  rintro e w1 ⟨aa, ac, rfl, hed1, hb1⟩
  have W1 : Hid (BX 26 (w1.alloc (.cells #[.int .i64 m, .slice aa E.length ac, .int .i64 k, .int .i64 pv] 26)) w1.heap.size #[.int .i64 m, .slice aa E.length ac, .int .i64 k, .int .i64 pv] ∧ EdR (w1.alloc (.cells #[.int .i64 m, .slice aa E.length ac, .int .i64 k, .int .i64 pv] 26)) (.slice aa E.length ac) E ∧ Below w.heap.size w (w1.alloc (.cells #[.int .i64 m, .slice aa E.length ac, .int .i64 k, .int .i64 pv] 26))) := ⟨BX.new _ _ _, hed1.below (below_alloc _ _) (Nat.le_refl _), hb1.alloc hb1.size _⟩
  clear hed1 hb1 CJ
  go_upto_region 2 with fail
  generalize w1.alloc (.cells #[.int .i64 m, .slice aa E.length ac, .int .i64 k, .int .i64 pv] 26) = W0 at *
  generalize w1.heap.size = jq at *
  obtain ⟨x0, e0, b0⟩ := W1.out
  have HK : Hid (∀ X, Below W0.heap.size W0 X → BX 26 X jq #[.int .i64 m, .slice aa E.length ac, .int .i64 k, .int .i64 pv] ∧ EdR X (.slice aa E.length ac) E ∧ Below w.heap.size w X) := fun X hX => ⟨x0.below hX x0.lt, e0.below hX (Nat.le_refl _), b0.trans (hX.mono b0.size)⟩
  have A0 : Hid (Below W0.heap.size W0 W0) := Below.refl _ _
  obtain ⟨j0, j1, j2, j3⟩ := x0.all4
  clear x0 e0 b0 W1
  go_wp2_with fail
  refine (CR.out _ _ (HK.out _ A0.out).2.1).mono ?_
  rintro e w2 ⟨va, ma, rfl, ho2, hl2, hb2⟩
  simp only at ho2 hl2
  obtain ⟨⟨va1, va2, va3, rfl⟩, ma1, ma2, ma3, rfl⟩ := sta_shape ho2 hl2
  have W2 : Hid (BxS W0 w2.heap.size T (.slice va1 va2 va3) (.slice ma1 ma2 ma3) (w2.alloc (.cells #[.int .i64 T.step, .int .i64 T.phase, .bool T.fresh, .bool T.done, .slice va1 va2 va3, .slice ma1 ma2 ma3] 30)) ∧ Below W0.heap.size W0 (w2.alloc (.cells #[.int .i64 T.step, .int .i64 T.phase, .bool T.fresh, .bool T.done, .slice va1 va2 va3, .slice ma1 ma2 ma3] 30))) := ⟨BxS.new ho2 hl2 hb2, hb2.alloc hb2.size _⟩
  clear ho2 hl2 hb2 j0 j1 j2 j3 CR
  go_upto_region 3 with fail
  generalize w2.alloc (.cells #[.int .i64 T.step, .int .i64 T.phase, .bool T.fresh, .bool T.done, .slice va1 va2 va3, .slice ma1 ma2 ma3] 30) = W3 at *
  generalize w2.heap.size = b12 at *
  obtain ⟨x3, bl3⟩ := W2.out
  have X3 : Hid (BxS W0 b12 T (.slice va1 va2 va3) (.slice ma1 ma2 ma3) W3) := x3
  have A3 : Hid (Below W0.heap.size W0 W3) := bl3
  obtain ⟨J3, _, _⟩ := HK.out _ bl3
  obtain ⟨j0, j1, j2, j3⟩ := J3.all4
  clear x3 bl3 J3 W2
  go_wp2_with fail
  refine (CB.out _ _ (HK.out _ A3.out).2.1).mono ?_
  rintro e w4 ⟨vb, mb, rfl, ho4, hl4, hb4⟩
  simp only at ho4 hl4
  obtain ⟨⟨vb1, vb2, vb3, rfl⟩, mb1, mb2, mb3, rfl⟩ := sta_shape ho4 hl4
  have hs3 := A3.out.size
  have W4 : Hid (BxS W0 b12 T (.slice va1 va2 va3) (.slice ma1 ma2 ma3) (w4.alloc (.cells #[.int .i64 t0.step, .int .i64 t0.phase, .bool t0.fresh, .bool t0.done, .slice vb1 vb2 vb3, .slice mb1 mb2 mb3] 30)) ∧ BxS W0 w4.heap.size t0 (.slice vb1 vb2 vb3) (.slice mb1 mb2 mb3) (w4.alloc (.cells #[.int .i64 t0.step, .int .i64 t0.phase, .bool t0.fresh, .bool t0.done, .slice vb1 vb2 vb3, .slice mb1 mb2 mb3] 30)) ∧ Below W0.heap.size W0 (w4.alloc (.cells #[.int .i64 t0.step, .int .i64 t0.phase, .bool t0.fresh, .bool t0.done, .slice vb1 vb2 vb3, .slice mb1 mb2 mb3] 30)) ∧ b12 ≠ w4.heap.size) := by
    have b4 : Below W0.heap.size W0 w4 := A3.out.trans (hb4.mono hs3)
    have x4 := X3.out.below hb4
    exact ⟨x4.below (below_alloc _ _), BxS.new (own_lower ho4 hs3) (hl4.lower hs3) b4, b4.alloc b4.size _, Nat.ne_of_lt x4.x.lt⟩
  clear ho4 hl4 hb4 hs3 j0 j1 j2 j3 CB X3 A3
  go_upto_region 4 with fail
  generalize w4.alloc (.cells #[.int .i64 t0.step, .int .i64 t0.phase, .bool t0.fresh, .bool t0.done, .slice vb1 vb2 vb3, .slice mb1 mb2 mb3] 30) = W5 at *
  generalize w4.heap.size = b14 at *
  go_wp2_with fail
  go_loopw [16] (fun i wr => ∃ (q : Nat) (t : StS) (vb mb : Value), i = .int .i64 q ∧ (∃ a n c, vb = .slice a n c) ∧ (∃ a n c, mb = .slice a n c) ∧ StI m E k pv i0 T q t ∧ BxS W0 b12 T (.slice va1 va2 va3) (.slice ma1 ma2 ma3) wr ∧ BxS W0 b14 t vb mb wr ∧ b12 ≠ b14 ∧ Below W0.heap.size W0 wr) (fun i _ => 200 - (intOf i).toNat)
  case atStart => exact ⟨0, t0, _, _, rfl, ⟨_, _, _, rfl⟩, ⟨_, _, _, rfl⟩, HST.out, W4.out.1, W4.out.2.1, W4.out.2.2.2, W4.out.2.2.1⟩
  case round =>
    clear W4 HST
    obtain ⟨q, t, _, _, rfl, ⟨x1, x2, x3, rfl⟩, ⟨y1, y2, y3, rfl⟩, hsi, hxa, hxb, hne, hbl⟩ := hrel
    have SI : Hid (StI m E k pv i0 T q t) := hsi
    have XA : Hid (BxS W0 b12 T (.slice va1 va2 va3) (.slice ma1 ma2 ma3) wr) := hxa
    have XB : Hid (BxS W0 b14 t (.slice x1 x2 x3) (.slice y1 y2 y3) wr) := hxb
    have AB : Hid (Below W0.heap.size W0 wr) := hbl
    have hq0 := hsi.2.2.2
    have hsr := hbl.size
    obtain ⟨J4, _, _⟩ := HK.out _ hbl
    obtain ⟨j0, j1, j2, j3⟩ := J4.all4
    obtain ⟨⟨c0, c1, c2, c3, c4, c5⟩, f0, f1, f2, f3, f4, f5⟩ := hxb.x.all6
    have tq : decide ((q : Int) < 200) = true := by simp; omega
    have tq' : (q : Int) < 200 := by omega
    clear hsi hxa hxb hbl J4
    rcases Bool.eq_false_or_eq_true t.done with hd | hd
    · obtain ⟨rfl, hqi⟩ := HFN.out q t SI.out hd
      have HEQ : Hid (nextE m E k pv t = (0, t)) := HEN.out q t SI.out hd
      have HSS : Hid (t.step = i0) := HTS.out
      rw [hd] at c3
      have HDD : Hid (t.done = true) := hd
      clear hd hqi SI HGO HFN HEN HTS HDT
      obtain ⟨V6, rfl⟩ : ∃ V, V = wr := ⟨wr, rfl⟩
      go_wp2_with fail
      clear j0 j1 j2 j3 c0 c1 c2 c3 c4 c5 f0 f1 f2 f3 f4 f5
      go_loopw [19] (fun i wr => ∃ q : Nat, i = .int .i64 q ∧ q ≤ mo ∧ BxS W0 b12 t (.slice va1 va2 va3) (.slice ma1 ma2 ma3) wr ∧ BxS W0 b14 t (.slice x1 x2 x3) (.slice y1 y2 y3) wr ∧ Below W0.heap.size W0 wr) (fun i _ => 4 - (intOf i).toNat)
      case atStart => exact ⟨0, rfl, Nat.zero_le _, XA.out, XB.out, AB.out⟩
      case round =>
        clear XA XB AB
        obtain ⟨r, rfl, hrm, hxa, hxb, hbl⟩ := hrel
        have XA : Hid (BxS W0 b12 t (.slice va1 va2 va3) (.slice ma1 ma2 ma3) wr) := hxa
        have XB : Hid (BxS W0 b14 t (.slice x1 x2 x3) (.slice y1 y2 y3) wr) := hxb
        have AB : Hid (Below W0.heap.size W0 wr) := hbl
        have hsr := hbl.size
        obtain ⟨J4, _, _⟩ := HK.out _ hbl
        obtain ⟨j0, j1, j2, j3⟩ := J4.all4
        obtain ⟨⟨c0, c1, c2, c3, c4, c5⟩, _⟩ := hxb.x.all6
        obtain ⟨⟨d0, d1, d2, d3, d4, d5⟩, _⟩ := hxa.x.all6
        rw [HDD.out] at c3 d3
        have CX : Hid (∀ X, X = wr → _) := fun X (_ : X = wr) => CN.out wr _ t t _ _ HEQ.out (HK.out _ AB.out).2.1 XB.out.reads.1 XB.out.reads.2
        have CY : Hid (∀ X va ma vb mb, MlR X va t.vals → MlR X vb t.vals → LiR X ma t.mail → LiR X mb t.mail → _) := fun X va ma vb mb h1 h2 h3 h4 => sameStateK_yes t va vb ma mb X h1 h2 h3 h4
        rw [HDD.out] at CX CY
        clear hxa hxb hbl J4
        by_cases hlt : r < mo
        · have tr : decide ((r : Int) < (mo : Int)) = true := by simp; omega
          have tr' : (r : Int) < (mo : Int) := by omega
          go_wp2_with fail
          refine (CP.out _).mono ?_
          rintro e w7 ⟨rfl, rfl⟩
          go_wp2_with fail
          refine (CX.out _ rfl).mono ?_
          rintro e w7 ⟨vc, mc, rfl, ho7, hl7, hb7⟩
          simp only at ho7 hl7
          obtain ⟨⟨vc1, vc2, vc3, rfl⟩, mc1, mc2, mc3, rfl⟩ := sta_shape ho7 hl7
          have W7 : Hid (BxS W0 b12 t (.slice va1 va2 va3) (.slice ma1 ma2 ma3) (w7.alloc (.cells #[.int .i64 t.step, .int .i64 t.phase, .bool t.fresh, .bool t.done, .slice vc1 vc2 vc3, .slice mc1 mc2 mc3] 30)) ∧ BxS W0 b14 t (.slice x1 x2 x3) (.slice y1 y2 y3) (w7.alloc (.cells #[.int .i64 t.step, .int .i64 t.phase, .bool t.fresh, .bool t.done, .slice vc1 vc2 vc3, .slice mc1 mc2 mc3] 30)) ∧ BxS W0 w7.heap.size t (.slice vc1 vc2 vc3) (.slice mc1 mc2 mc3) (w7.alloc (.cells #[.int .i64 t.step, .int .i64 t.phase, .bool t.fresh, .bool t.done, .slice vc1 vc2 vc3, .slice mc1 mc2 mc3] 30)) ∧ Below W0.heap.size W0 (w7.alloc (.cells #[.int .i64 t.step, .int .i64 t.phase, .bool t.fresh, .bool t.done, .slice vc1 vc2 vc3, .slice mc1 mc2 mc3] 30))) := by
            have b7 : Below W0.heap.size W0 w7 := AB.out.trans (hb7.mono hsr)
            have h8 := BxS.new (own_lower ho7 hsr) (hl7.lower hsr) b7
            exact ⟨(XA.out.below hb7).below (below_alloc _ _), (XB.out.below hb7).below (below_alloc _ _), h8, b7.alloc b7.size _⟩
          clear ho7 hl7 hb7 j0 j1 j2 j3 c0 c1 c2 c3 c4 c5 d0 d1 d2 d3 d4 d5 XA XB AB CX
          go_upto_region 15 with fail
          generalize w7.alloc (.cells #[.int .i64 t.step, .int .i64 t.phase, .bool t.fresh, .bool t.done, .slice vc1 vc2 vc3, .slice mc1 mc2 mc3] 30) = W8 at *
          generalize w7.heap.size = b20 at *
          obtain ⟨xa8, xb8, xc8, bl8⟩ := W7.out
          have XA : Hid (BxS W0 b12 t (.slice va1 va2 va3) (.slice ma1 ma2 ma3) W8) := xa8
          have XB : Hid (BxS W0 b14 t (.slice x1 x2 x3) (.slice y1 y2 y3) W8) := xb8
          have XC : Hid (BxS W0 b20 t (.slice vc1 vc2 vc3) (.slice mc1 mc2 mc3) W8) := xc8
          have AB : Hid (Below W0.heap.size W0 W8) := bl8
          obtain ⟨⟨c0, c1, c2, c3, c4, c5⟩, _⟩ := xb8.x.all6
          obtain ⟨⟨d0, d1, d2, d3, d4, d5⟩, _⟩ := xc8.x.all6
          rw [HDD.out] at c3 d3
          have CZ : Hid (∀ X, X = W8 → _) := fun X (_ : X = W8) => CY.out W8 _ _ _ _ XC.out.reads.1 XB.out.reads.1 XC.out.reads.2 XB.out.reads.2
          clear xa8 xb8 xc8 bl8 W7 CY
          go_wp2_with fail
          refine (CZ.out _ rfl).mono ?_
          rintro e w9 ⟨rfl, hb9⟩
          have XA9 : Hid (BxS W0 b12 t (.slice va1 va2 va3) (.slice ma1 ma2 ma3) w9) := XA.out.below hb9
          have XB9 : Hid (BxS W0 b14 t (.slice x1 x2 x3) (.slice y1 y2 y3) w9) := XB.out.below hb9
          have AB9 : Hid (Below W0.heap.size W0 w9) := AB.out.trans (hb9.mono AB.out.size)
          clear c0 c1 c2 c3 c4 c5 d0 d1 d2 d3 d4 d5 hb9 XA XB XC AB CZ
          go_wp2_with fail
          go_roundw
          case rel => exact ⟨r + 1, by go_num, by omega, XA9.out, XB9.out, AB9.out⟩
          case measure => simp [intOf]; omega
        · have tr : decide ((r : Int) < (mo : Int)) = false := by simp; omega
          have tr' : ¬ (r : Int) < (mo : Int) := by omega
          have CZ : Hid (∀ X, X = wr → _) := fun X (_ : X = wr) => CY.out wr _ _ _ _ XB.out.reads.1 XA.out.reads.1 XB.out.reads.2 XA.out.reads.2
          have hs0 : (0 : Int) < t.step := by have := HSS.out; omega
          have hs1 : decide (t.step > 0) = true := by simp; omega
          clear CX CY
          go_wp2_with fail
          refine (CP.out _).mono ?_
          rintro e w7 ⟨rfl, rfl⟩
          go_wp2_with fail
          refine (CZ.out _ rfl).mono ?_
          rintro e w9 ⟨rfl, hb9⟩
          have XB9 := XB.out.below hb9
          clear c0 c1 c2 c3 c4 c5 d0 d1 d2 d3 d4 d5
          obtain ⟨⟨c0, c1, c2, c3, c4, c5⟩, _⟩ := XB9.x.all6
          rw [HDD.out] at c3
          have BW : Hid (Below w.heap.size w w9) := (HK.out _ (AB.out.trans (hb9.mono hsr))).2.2
          clear XB9 hb9 XA XB AB CZ
          go_wp2_with fail
          go_ret
          exact ⟨rfl, BW.out⟩
    · obtain ⟨hqi, t', hnx, hsi'⟩ := HGO.out q t SI.out hd
      have SI' : Hid (StI m E k pv i0 T (q + 1) t') := hsi'
      have CX : Hid (∀ X, X = wr → _) := fun X (_ : X = wr) => CN.out wr _ t t' _ _ hnx (HK.out _ AB.out).2.1 XB.out.reads.1 XB.out.reads.2
      have hst1 : IntKind.i64.wrap (t.step + 1) = t'.step := by
        rw [SI.out.2.2.1, hsi'.2.2.1]
        rw [wrap_id64 (by omega) (by omega)]; omega
      have tst : (t'.step != t'.step) = false := by simp
      rw [hd] at c3 CX
      clear hd hnx hsi' HGO HFN HEN SI
      go_wp2_with fail
      refine (CX.out _ rfl).mono ?_
      rintro e w7 ⟨vc, mc, rfl, ho7, hl7, hb7⟩
      simp only at ho7 hl7
      obtain ⟨⟨vc1, vc2, vc3, rfl⟩, mc1, mc2, mc3, rfl⟩ := sta_shape ho7 hl7
      have W7 : Hid (BxS W0 b12 T (.slice va1 va2 va3) (.slice ma1 ma2 ma3) (w7.alloc (.cells #[.int .i64 t'.step, .int .i64 t'.phase, .bool t'.fresh, .bool t'.done, .slice vc1 vc2 vc3, .slice mc1 mc2 mc3] 30)) ∧ BxS W0 b14 t (.slice x1 x2 x3) (.slice y1 y2 y3) (w7.alloc (.cells #[.int .i64 t'.step, .int .i64 t'.phase, .bool t'.fresh, .bool t'.done, .slice vc1 vc2 vc3, .slice mc1 mc2 mc3] 30)) ∧ BxS W0 w7.heap.size t' (.slice vc1 vc2 vc3) (.slice mc1 mc2 mc3) (w7.alloc (.cells #[.int .i64 t'.step, .int .i64 t'.phase, .bool t'.fresh, .bool t'.done, .slice vc1 vc2 vc3, .slice mc1 mc2 mc3] 30)) ∧ Below W0.heap.size W0 (w7.alloc (.cells #[.int .i64 t'.step, .int .i64 t'.phase, .bool t'.fresh, .bool t'.done, .slice vc1 vc2 vc3, .slice mc1 mc2 mc3] 30))) := by
        have b7 : Below W0.heap.size W0 w7 := AB.out.trans (hb7.mono hsr)
        exact ⟨(XA.out.below hb7).below (below_alloc _ _), (XB.out.below hb7).below (below_alloc _ _), BxS.new (own_lower ho7 hsr) (hl7.lower hsr) b7, b7.alloc b7.size _⟩
      clear ho7 hl7 hb7 j0 j1 j2 j3 c0 c1 c2 c3 c4 c5 f0 f1 f2 f3 f4 f5 XA XB AB CX
      go_upto_region 8 with fail
      generalize w7.alloc (.cells #[.int .i64 t'.step, .int .i64 t'.phase, .bool t'.fresh, .bool t'.done, .slice vc1 vc2 vc3, .slice mc1 mc2 mc3] 30) = W8 at *
      generalize w7.heap.size = b17 at *
      obtain ⟨xa8, xb8, xc8, bl8⟩ := W7.out
      have hw0 := bl8.size
      have XN : Hid (BxS W0 b12 T (.slice va1 va2 va3) (.slice ma1 ma2 ma3) (put6 W8 b14 (.int .i64 t'.step) (.int .i64 t'.phase) (.bool t'.fresh) (.bool t'.done) (.slice vc1 vc2 vc3) (.slice mc1 mc2 mc3)) ∧ BxS W0 b14 t' (.slice vc1 vc2 vc3) (.slice mc1 mc2 mc3) (put6 W8 b14 (.int .i64 t'.step) (.int .i64 t'.phase) (.bool t'.fresh) (.bool t'.done) (.slice vc1 vc2 vc3) (.slice mc1 mc2 mc3)) ∧ Below W0.heap.size W0 (put6 W8 b14 (.int .i64 t'.step) (.int .i64 t'.phase) (.bool t'.fresh) (.bool t'.done) (.slice vc1 vc2 vc3) (.slice mc1 mc2 mc3))) := ⟨xa8.other xb8.x (kept_put6 _ _ _ _ _ _ _ _) hne, xb8.put xc8.o xc8.l, below_put6 bl8 xb8.b xb8.x.lt _ _ _ _ _ _⟩
      obtain ⟨⟨c0, c1, c2, c3, c4, c5⟩, f0, f1, f2, f3, f4, f5⟩ := xb8.x.all6
      obtain ⟨⟨d0, d1, d2, d3, d4, d5⟩, _⟩ := xc8.x.all6
      clear xa8 xb8 xc8 bl8 W7
      unfold put6 at XN
      go_wp2_with fail
      go_roundw
      case rel => exact ⟨q + 1, t', _, _, by go_num, ⟨_, _, _, rfl⟩, ⟨_, _, _, rfl⟩, SI'.out, XN.out.1, XN.out.2.1, hne, XN.out.2.2⟩
      case measure => simp [intOf]; omega

set_option maxHeartbeats 400000 in
set_option maxRecDepth 100000 in
theorem lifted (os : Os) (started : os.Started) (H : Type) (enc : TypeId × Value → H) :
    ReturnsInHanded {} Try.checked os 7 .any (Rows.roundsStepsSpec.pre6 enc Try.prog Try.f7 Rows.roundsStepsRow.domain false) (Rows.roundsStepsSpec.post enc Try.prog Try.f7 false true false false) := by
  refine returnsInHanded_of_change_sized (C := Try.checked) own started (by kernel_rfl) Try.func7
    (ChangeSpec.witness6 (enc := enc) (C := Try.checked) false ⟨#[], #[.int .i64 0, .slice none 0 0, .int .i64 0, .int .i64 0, .int .i64 0], []⟩ 8 (by kernel_rfl) (by kernel_rfl) (by kernel_rfl) (by kernel_rfl)) ?_
  intro W base args ds gs before hval0 hW _ hsz0 _
  have hval : ∀ (j : Nat) t v, Try.f7.params[j]? = some t → args[j]? = some v → Value.okWide Try.prog W .any base t v := hval0
  have hW' := hW
  obtain ⟨p, q, hA0, hV, rfl, hfz, hnd⟩ := hW
  have hA : DataW.TrodAll enc Try.prog W 0 (fun _ => true) true Try.f7.params.toList args.toList ds p := hA0
  have hsz : (DataW.weightsEach Try.prog (Try.f7.params.toList ++ Rows.roundsStepsSpec.plain.varTypes Try.prog) (ds ++ gs)).all (fun x => decide (x ≤ reachBytes)) = true := hsz0
  rw [Try.params7] at hA hval hsz
  obtain ⟨v0, vs0, d0, ds0, p0, q0, hargs, rfl, rfl, h0, r0⟩ := trodAll_cons hA
  obtain ⟨v1, vs1, d1, ds1, p1, q1, rfl, rfl, rfl, h1, r1⟩ := trodAll_cons r0
  obtain ⟨v2, vs2, d2, ds2, p2, q2, rfl, rfl, rfl, h2, r2⟩ := trodAll_cons r1
  obtain ⟨v3, vs3, d3, ds3, p3, q3, rfl, rfl, rfl, h3, r3⟩ := trodAll_cons r2
  obtain ⟨v4, vs4, d4, ds4, p4, q4, rfl, rfl, rfl, h4, r4⟩ := trodAll_cons r3
  obtain ⟨rfl, rfl, rfl⟩ := trodAll_nil r4
  obtain rfl : args = #[v0, v1, v2, v3, v4] := by cases args; simp_all
  obtain ⟨rfl, rfl⟩ := trodVars_none hV
  have k0 := h0
  have lt0 : ∀ x ∈ p0, x.block < W.heap.size := by obtain ⟨m, hm⟩ := k0; exact DataW.trod_lt m _ _ _ hm
  have k1 := h1
  have lt1 : ∀ x ∈ p1, x.block < W.heap.size := by obtain ⟨m, hm⟩ := k1; exact DataW.trod_lt m _ _ _ hm
  have hw1 : ∀ m ∈ d1.weights Try.prog 40, m ≤ reachBytes := fun m hm => by simpa using List.all_eq_true.1 hsz _ (DataW.weights_mem_each (j := 1) (t := 40) rfl rfl m hm)
  have k2 := h2
  have lt2 : ∀ x ∈ p2, x.block < W.heap.size := by obtain ⟨m, hm⟩ := k2; exact DataW.trod_lt m _ _ _ hm
  have k3 := h3
  have lt3 : ∀ x ∈ p3, x.block < W.heap.size := by obtain ⟨m, hm⟩ := k3; exact DataW.trod_lt m _ _ _ hm
  have k4 := h4
  have lt4 : ∀ x ∈ p4, x.block < W.heap.size := by obtain ⟨m, hm⟩ := k4; exact DataW.trod_lt m _ _ _ hm
  obtain ⟨n0, rfl, _, _, wf0⟩ := open_int Try.underlying3 (hval 0 3 v0 rfl rfl) h0
  have hI0 := bounds_i64 wf0
  obtain ⟨es1, hR1, hB1, hL1⟩ := open_ways (okWide_slice Try.underlying40 (hval 1 40 v1 rfl rfl)) h1 hw1
  obtain ⟨n2, rfl, _, _, wf2⟩ := open_int Try.underlying3 (hval 2 3 v2 rfl rfl) h2
  have hI2 := bounds_i64 wf2
  obtain ⟨n3, rfl, _, _, wf3⟩ := open_int Try.underlying3 (hval 3 3 v3 rfl rfl) h3
  have hI3 := bounds_i64 wf3
  obtain ⟨n4, rfl, _, _, wf4⟩ := open_int Try.underlying3 (hval 4 3 v4 rfl rfl) h4
  have hI4 := bounds_i64 wf4
  clear hA0 hval0
  refine (walk n0 v1 es1 n2 n3 n4 W hI0 hR1 hB1 hL1 hI2 hI3 hI4).mono fun e W' ⟨he, bel⟩ => ?_
  subst he
  exact ⟨_, rfl, _, _, _, [], _, [], hW', trodAll_mk1 (shut_bool Try.underlying4 _), (trodAll_cons_mk (Below.trod laidOut (by kernel_rfl) (of_decide_eq_true (by kernel_rfl)) k0 bel lt0) (trodAll_cons_mk (Below.trod laidOut (by kernel_rfl) (of_decide_eq_true (by kernel_rfl)) k1 bel lt1) (trodAll_cons_mk (Below.trod laidOut (by kernel_rfl) (of_decide_eq_true (by kernel_rfl)) k2 bel lt2) (trodAll_cons_mk (Below.trod laidOut (by kernel_rfl) (of_decide_eq_true (by kernel_rfl)) k3 bel lt3) (trodAll_cons_mk (Below.trod laidOut (by kernel_rfl) (of_decide_eq_true (by kernel_rfl)) k4 bel lt4) trodAll_mk0))))), rfl, bel.frame _, fun h => by cases h⟩

theorem over : Rows.roundsStepsRow.holds Try.pinned (OpenSpec.ofChange Rows.roundsStepsSpec) :=
  OpenClaim.holds_of_wide 7 Try.f7 rfl rfl rfl rfl rfl rfl rfl ⟨rfl, rfl, rfl, rfl, rfl⟩ rfl rfl rfl rfl rfl (by kernel_rfl) Try.func7 (by kernel_rfl)
    (of_decide_eq_true (by kernel_rfl)) (by unfold Func.isWrapper; first | (rw [if_pos (by decide +kernel)]; kernel_rfl) | (rw [if_neg (by decide +kernel)]; exact ⟨rfl, rfl⟩))
    (fun os started H enc _ => lifted os started H enc)

/-- The statement. -/
theorem proved : Rows.RoundsStepsSaid := over
#print axioms proved
end Go.Proofs.Ytbmkgnlfccigpaa.roundsSteps
