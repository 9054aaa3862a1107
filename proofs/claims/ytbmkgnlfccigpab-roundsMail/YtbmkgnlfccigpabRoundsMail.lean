/-
  For every number, ways, kind, source and number of rounds a round of a job over a graph that is made of them sends just as many pieces of mail as there are edges that are spoken along, and none behind a round in which nobody spoke (the law RoundsMail returns true, and its arguments read as before); no condition.
-/
import Derived.Test.YtbmkgnlfccigpabWayOpen
import Derived.Test.YtbmkgnlfccigpabRoundsMailPartA
import Derived.Test.YtbmkgnlfccigpabRoundsMailPartB
import Derived.Test.YtbmkgnlfccigpabProgFace
import Derived.Test.YtbmkgnlfccigpabProgOpen
import Derived.Test.YtbmkgnlfccigpabRndSaid
import Derived.Test.YtbmkgnlfccigpabRndWoken
import Derived.WalkKit
import Derived.ProofKit
import Derived.OpenShut
import Derived.ShutString
import Derived.SizedLaws
import Derived.ChangeOld
import Derived.Below
namespace Go.Proofs.Ytbmkgnlfccigpab.roundsMail
set_option maxRecDepth 100000
open Go.ChangeShapes Go.WideShapes Go.ChangeAt Go.RowKit

theorem own : ownKnob Try.prog.godebug = none := by kernel_rfl
theorem laidOut : laidOutB Try.prog = true := by kernel_rfl

set_option maxHeartbeats 16000000 in
set_option maxRecDepth 100000 in
theorem walk (n0 : Int) (v1 : Value) (es1 : List Ed) (n2 : Int) (n3 : Int) (n4 : Int) (w : World) (hI0 : -9223372036854775808 ≤ n0 ∧ n0 ≤ 9223372036854775807) (hR1 : EdR w v1 es1) (hB1 : ∀ x ∈ es1, edB x) (hL1 : es1.length * 24 ≤ 140737488351232) (hI2 : -9223372036854775808 ≤ n2 ∧ n2 ≤ 9223372036854775807) (hI3 : -9223372036854775808 ≤ n3 ∧ n3 ≤ 9223372036854775807) (hI4 : -9223372036854775808 ≤ n4 ∧ n4 ≤ 9223372036854775807) :
    Calls Try.prog 4 #[.int .i64 n0, v1, .int .i64 n2, .int .i64 n3, .int .i64 n4] w fun e w' => e = .returned (.bool true) ∧ Below w.heap.size w w' := by
  have _u := hI0
  clear _u
  have _u := hR1
  clear _u
  have _u := hB1
  clear _u
  have _u := hL1
  clear _u
  have _u := hI2
  clear _u
  have _u := hI3
  clear _u
  have _u := hI4
  clear _u
  have HR : Hid (EdR w v1 es1) := hR1
  have hpb := pickF_bd n0 6 (by omega)
  have hpk := pickF_bd n2 3 (by omega)
  have CJ : Hid (∀ X, EdR X v1 es1 → Calls Try.prog 5 #[.int .i64 n0, v1, .int .i64 n2, .int .i64 n3] X fun e w' => ∃ aa ac, e = .returned (.agg #[.int .i64 (1 + pickF n0 6), .slice aa (madeL (1 + pickF n0 6) es1).length ac, .int .i64 (1 + pickF n2 3), .int .i64 (pickF n3 (1 + pickF n0 6))]) ∧ EdR w' (.slice aa (madeL (1 + pickF n0 6) es1).length ac) (madeL (1 + pickF n0 6) es1) ∧ Below X.heap.size X w') := fun X hX => (kjob_any n0 n2 n3 v1 es1 X hX hB1 hI0 hI2 hI3).mono fun e w' ⟨v', h1, h2, h3⟩ => by
    have h4 : EdR w' v' (madeL (1 + pickF n0 6) es1) := RowK.own encE_len h2
    obtain ⟨aa, ac, rfl⟩ := h4.shape
    exact ⟨aa, ac, h1, h4, h3⟩
  have F0 : Hid (faultE (1 + pickF n0 6) (madeL (1 + pickF n0 6) es1) = 0) := made_right (by omega) (by omega)
  have HW9 : Hid (∀ e ∈ madeL (1 + pickF n0 6) es1, e.2.2 ≤ 9) := made_wgt
  have hEl := made_len (1 + pickF n0 6) es1
  have hn0 : 0 < 1 + pickF n0 6 := by omega
  have hn8 : 1 + pickF n0 6 ≤ 6 := by omega
  have hps0 := pickF_bd n3 (1 + pickF n0 6) hn0
  generalize madeL (1 + pickF n0 6) es1 = E at *
  generalize pickF n3 (1 + pickF n0 6) = pv at *
  generalize 1 + pickF n0 6 = N at *
  obtain ⟨m, rfl⟩ : ∃ m : Nat, N = m := ⟨N.toNat, by omega⟩
  have hk3 : 1 ≤ 1 + pickF n2 3 ∧ 1 + pickF n2 3 ≤ 3 := by omega
  generalize 1 + pickF n2 3 = k at *
  have hm0 : 0 < m := by omega
  have HG : Hid (InG m E) := in_fault F0.out
  have HJE : Hid (jobE (m : Int) E k pv = 0) := jobE_ok F0.out hk3 (fun _ => hps0)
  obtain ⟨i0, T, hi1, hi2, hG, hdn, hst, hvl⟩ := job_rounds hm0 (by omega) hk3 hps0 HG.out HW9.out
  have HST : Hid (StI m E k pv i0 T 0 (beginS m)) := StI.start hk3 hG
  have HGO : Hid (∀ (q : Nat) (t : StS), StI m E k pv i0 T q t → t.done = false → q < i0 ∧ ∃ t', nextE m E k pv t = (0, t') ∧ StI m E k pv i0 T (q + 1) t') := fun q t h hd => h.go (by omega) HG.out (by omega) (by omega) hdn hd
  have HFN : Hid (∀ (q : Nat) (t : StS), StI m E k pv i0 T q t → t.done = true → t = T ∧ q = i0) := fun q t h hd => h.fin hd
  have CB : Hid (∀ X v, EdR X v E → Calls Try.prog 9 #[.agg #[.int .i64 m, v, .int .i64 k, .int .i64 pv]] X (StaP X (0, beginS m))) := fun X v hX => by
    have h1 := rBegin_any v E m k pv X hX
    have h2 : begE (m : Int) E k pv = (0, beginS m) := by unfold begE; rw [if_pos HJE.out, Int.toNat_natCast]
    rw [h2] at h1
    exact h1
  have CN : Hid (∀ X v (t t' : StS) va ma, nextE m E k pv t = (0, t') → EdR X v E → MlR X va t.vals → LiR X ma t.mail → Calls Try.prog 10 #[.agg #[.int .i64 m, v, .int .i64 k, .int .i64 pv], .agg #[.int .i64 t.step, .int .i64 t.phase, .bool t.fresh, .bool t.done, va, ma]] X (StaP X (0, t'))) := fun X v t t' va ma hn h1 h2 h3 => by
    have h4 := rNext_any v E m k pv t va ma X h1 h2 h3
    have h5 : folE (m : Int) E k pv t = (0, t') := by unfold folE; rw [if_neg (by simp [HJE.out]), Int.toNat_natCast, hn]
    rw [h5] at h4
    exact h4
  generalize hbg : beginS m = t0 at *
  clear hbg
  have CP : Hid (∀ X, Calls Try.prog 6 #[.int .i64 n4, .int .i64 12] X fun e w' => e = .returned (.int .i64 (pickF n4 12)) ∧ X = w') := fun X => (picked_any n4 12 X hI4.1 hI4.2 (by omega) (by omega)).mono fun e w' h => ⟨h.1, h.2.symm⟩
  have hp4 := pickF_bd n4 12 (by omega)
  generalize pickF n4 12 = mo at *
  obtain ⟨mo, rfl⟩ : ∃ q : Nat, mo = q := ⟨mo.toNat, by omega⟩
  have HML : Hid (∀ (q : Nat) (t : StS), StI m E k pv i0 T q t → ∃ j t', jobF k t.phase = some j ∧ nextE m E k pv t = (0, t') ∧ (∃ q', StI m E k pv i0 T q' t') ∧ t'.mail.length = m ∧ t.vals.length = m ∧ t.mail.length = m ∧ manyL t'.mail ≤ 5000 ∧ (∀ x ∈ t.vals, valB j x = true) ∧ (∀ l ∈ t.mail, mailB j l = true) ∧ (t.done = true → manyL t'.mail = 0) ∧ (t.done = false → manyL t'.mail = wantN j (rndV j pv t) E m) ∧ (0 < manyL t'.mail → t'.fresh = false ∧ t'.done = false)) := fun q t h => h.mail (by omega) HG.out (by omega) (by omega) hdn
  clear hpb hpk hB1 hL1 hI0 hI2 hI3 hI4 F0 HW9 HG HJE hG hdn hst hvl HGO HFN
  obtain ⟨a, cap, rfl⟩ := hR1.shape
  clear hR1
  go_enter Try.func4, Try.ntmps4
  go_wp2_with fail
  refine (CJ.out _ HR.out).mono ?_
  rintro e w1 ⟨aa, ac, rfl, hed1, hb1⟩
  have W1 : Hid (BX 27 (w1.alloc (.cells #[.int .i64 m, .slice aa E.length ac, .int .i64 k, .int .i64 pv] 27)) w1.heap.size #[.int .i64 m, .slice aa E.length ac, .int .i64 k, .int .i64 pv] ∧ EdR (w1.alloc (.cells #[.int .i64 m, .slice aa E.length ac, .int .i64 k, .int .i64 pv] 27)) (.slice aa E.length ac) E ∧ Below w.heap.size w (w1.alloc (.cells #[.int .i64 m, .slice aa E.length ac, .int .i64 k, .int .i64 pv] 27))) := ⟨BX.new _ _ _, hed1.below (below_alloc _ _) (Nat.le_refl _), hb1.alloc hb1.size _⟩
  clear hed1 hb1 CJ
  go_upto_region 2 with fail
  generalize w1.alloc (.cells #[.int .i64 m, .slice aa E.length ac, .int .i64 k, .int .i64 pv] 27) = W0 at *
  generalize w1.heap.size = jq at *
  obtain ⟨x0, e0, b0⟩ := W1.out
  have HK : Hid (∀ X, Below W0.heap.size W0 X → BX 27 X jq #[.int .i64 m, .slice aa E.length ac, .int .i64 k, .int .i64 pv] ∧ EdR X (.slice aa E.length ac) E ∧ Below w.heap.size w X) := fun X hX => ⟨x0.below hX x0.lt, e0.below hX (Nat.le_refl _), b0.trans (hX.mono b0.size)⟩
  have A0 : Hid (Below W0.heap.size W0 W0) := Below.refl _ _
  obtain ⟨j0, j1, j2, j3⟩ := x0.all4
  clear x0 e0 b0 W1
  go_wp2_with fail
  refine (CB.out _ _ (HK.out _ A0.out).2.1).mono ?_
  rintro e w2 ⟨va, ma, rfl, ho2, hl2, hb2⟩
  simp only at ho2 hl2
  obtain ⟨⟨va1, va2, va3, rfl⟩, ma1, ma2, ma3, rfl⟩ := sta_shape ho2 hl2
  have W2 : Hid (BxS W0 w2.heap.size t0 (.slice va1 va2 va3) (.slice ma1 ma2 ma3) (w2.alloc (.cells #[.int .i64 t0.step, .int .i64 t0.phase, .bool t0.fresh, .bool t0.done, .slice va1 va2 va3, .slice ma1 ma2 ma3] 34)) ∧ Below W0.heap.size W0 (w2.alloc (.cells #[.int .i64 t0.step, .int .i64 t0.phase, .bool t0.fresh, .bool t0.done, .slice va1 va2 va3, .slice ma1 ma2 ma3] 34))) := ⟨BxS.new ho2 hl2 hb2, hb2.alloc hb2.size _⟩
  clear ho2 hl2 hb2 j0 j1 j2 j3 CB
  go_upto_region 3 with fail
  generalize w2.alloc (.cells #[.int .i64 t0.step, .int .i64 t0.phase, .bool t0.fresh, .bool t0.done, .slice va1 va2 va3, .slice ma1 ma2 ma3] 34) = W3 at *
  generalize w2.heap.size = b12 at *
  go_wp2_with fail
  go_loopw [13, 14] (fun e i wr => ∃ (c q : Nat) (t : StS) (vb mb : Value), e = .int .i64 0 ∧ i = .int .i64 c ∧ c ≤ mo ∧ (∃ a n c, vb = .slice a n c) ∧ (∃ a n c, mb = .slice a n c) ∧ StI m E k pv i0 T q t ∧ BxS W0 b12 t vb mb wr ∧ Below W0.heap.size W0 wr) (fun _ i _ => 12 - (intOf i).toNat)
  case atStart => exact ⟨0, 0, t0, _, _, rfl, rfl, Nat.zero_le _, ⟨_, _, _, rfl⟩, ⟨_, _, _, rfl⟩, HST.out, W2.out.1, W2.out.2⟩
  case round =>
    clear W2 HST
    obtain ⟨c, q, t, _, _, rfl, rfl, hcm, ⟨x1, x2, x3, rfl⟩, ⟨y1, y2, y3, rfl⟩, hsi, hxb, hbl⟩ := hrel
    have SI : Hid (StI m E k pv i0 T q t) := hsi
    have XB : Hid (BxS W0 b12 t (.slice x1 x2 x3) (.slice y1 y2 y3) wr) := hxb
    have AB : Hid (Below W0.heap.size W0 wr) := hbl
    have hsr := hbl.size
    obtain ⟨J4, _, _⟩ := HK.out _ hbl
    obtain ⟨j0, j1, j2, j3⟩ := J4.all4
    obtain ⟨⟨c0, c1, c2, c3, c4, c5⟩, f0, f1, f2, f3, f4, f5⟩ := hxb.x.all6
    clear hsi hxb hbl J4
    obtain ⟨j, t', hj, hnx, ⟨q', hsi'⟩, hlm', hlv, hlm, hfew, hvb, hmb, hdz, hnz, hfl⟩ := HML.out q t SI.out
    have SI' : Hid (StI m E k pv i0 T q' t') := hsi'
    have CX : Hid (∀ X, X = wr → _) := fun X (_ : X = wr) => CN.out wr _ t t' _ _ hnx (HK.out _ AB.out).2.1 XB.out.reads.1 XB.out.reads.2
    by_cases hlt : c < mo
    · have tr : decide ((c : Int) < (mo : Int)) = true := by simp; omega
      have tr' : (c : Int) < (mo : Int) := by omega
      clear hj hnx hsi' hlm' hlv hlm hfew hvb hmb hdz hnz hfl SI HML
      go_wp2_with fail
      refine (CP.out _).mono ?_
      rintro e w7 ⟨rfl, rfl⟩
      go_wp2_with fail
      refine (CX.out _ rfl).mono ?_
      rintro e w7 ⟨vc, mc, rfl, ho7, hl7, hb7⟩
      simp only at ho7 hl7
      obtain ⟨⟨vc1, vc2, vc3, rfl⟩, mc1, mc2, mc3, rfl⟩ := sta_shape ho7 hl7
      have xb8 := XB.out.below hb7
      have bl8 : Below W0.heap.size W0 w7 := AB.out.trans (hb7.mono hsr)
      have XN : Hid (BxS W0 b12 t' (.slice vc1 vc2 vc3) (.slice mc1 mc2 mc3) (put6 w7 b12 (.int .i64 t'.step) (.int .i64 t'.phase) (.bool t'.fresh) (.bool t'.done) (.slice vc1 vc2 vc3) (.slice mc1 mc2 mc3)) ∧ Below W0.heap.size W0 (put6 w7 b12 (.int .i64 t'.step) (.int .i64 t'.phase) (.bool t'.fresh) (.bool t'.done) (.slice vc1 vc2 vc3) (.slice mc1 mc2 mc3))) := ⟨xb8.put (own_lower ho7 hsr) (hl7.lower hsr), below_put6 bl8 xb8.b xb8.x.lt _ _ _ _ _ _⟩
      clear j0 j1 j2 j3 c0 c1 c2 c3 c4 c5 f0 f1 f2 f3 f4 f5
      obtain ⟨⟨c0, c1, c2, c3, c4, c5⟩, f0, f1, f2, f3, f4, f5⟩ := xb8.x.all6
      clear xb8 bl8 ho7 hl7 hb7 XB AB CX
      unfold put6 at XN
      go_wp2_with fail
      go_roundw
      case rel => exact ⟨c + 1, q', t', _, _, rfl, by go_num, by omega, ⟨_, _, _, rfl⟩, ⟨_, _, _, rfl⟩, SI'.out, XN.out.1, XN.out.2⟩
      case measure => simp [intOf]; omega
    · have tr : decide ((c : Int) < (mo : Int)) = false := by simp; omega
      have tr' : ¬ (c : Int) < (mo : Int) := by omega
      have HJ : Hid (jobF k t.phase = some j) := hj
      have HLM1 : m ≤ t'.mail.length := Nat.le_of_eq hlm'.symm
      have HLM2 : t'.mail.length ≤ m := Nat.le_of_eq hlm'
      have HLV : Hid (t.vals.length = m) := hlv
      have HLT : Hid (t.mail.length = m) := hlm
      have HVB : Hid (∀ x ∈ t.vals, valB j x = true) := hvb
      have HMB : Hid (∀ l ∈ t.mail, mailB j l = true) := hmb
      have HDZ : Hid (t.done = true → manyL t'.mail = 0) := hdz
      have HNZ : Hid (t.done = false → manyL t'.mail = wantN j (rndV j pv t) E m) := hnz
      have HFL : Hid (0 < manyL t'.mail → t'.fresh = false ∧ t'.done = false) := hfl
      have tlv : ((t.vals.length : Int) != (m : Int)) = false := by rw [hlv]; simp
      obtain ⟨xa, xc, exv⟩ := (XB.out.reads.1 : MlR wr (.slice x1 x2 x3) t.vals).shape
      injection exv with exv1 exv2 exv3
      subst exv1 exv2 exv3
      obtain ⟨ya, yc, eym, _⟩ := XB.out.reads.2
      injection eym with eym1 eym2 eym3
      subst eym1 eym2 eym3
      clear hj hnx hsi' hlm' hlv hlm hvb hmb hdz hnz hfl SI HML SI'
      go_wp2_with fail
      refine (CP.out _).mono ?_
      rintro e w7 ⟨rfl, rfl⟩
      go_wp2_with fail
      refine (CX.out _ rfl).mono ?_
      rintro e w7 ⟨vc, mc, rfl, ho7, hl7, hb7⟩
      simp only at ho7 hl7
      obtain ⟨⟨vc1, vc2, vc3, rfl⟩, mc1, mc2, mc3, rfl⟩ := sta_shape ho7 hl7
      have W7 : Hid (BxS W0 b12 t (.slice x1 t.vals.length x3) (.slice y1 t.mail.length y3) (w7.alloc (.cells #[.int .i64 t'.step, .int .i64 t'.phase, .bool t'.fresh, .bool t'.done, .slice vc1 vc2 vc3, .slice mc1 mc2 mc3] 34)) ∧ BxS W0 w7.heap.size t' (.slice vc1 vc2 vc3) (.slice mc1 mc2 mc3) (w7.alloc (.cells #[.int .i64 t'.step, .int .i64 t'.phase, .bool t'.fresh, .bool t'.done, .slice vc1 vc2 vc3, .slice mc1 mc2 mc3] 34)) ∧ Below W0.heap.size W0 (w7.alloc (.cells #[.int .i64 t'.step, .int .i64 t'.phase, .bool t'.fresh, .bool t'.done, .slice vc1 vc2 vc3, .slice mc1 mc2 mc3] 34))) := by
        have b7 : Below W0.heap.size W0 w7 := AB.out.trans (hb7.mono hsr)
        exact ⟨(XB.out.below hb7).below (below_alloc _ _), BxS.new (own_lower ho7 hsr) (hl7.lower hsr) b7, b7.alloc b7.size _⟩
      clear ho7 hl7 hb7 j0 j1 j2 j3 c0 c1 c2 c3 c4 c5 f0 f1 f2 f3 f4 f5 XB AB CX
      go_upto_region 10 with fail
      generalize w7.alloc (.cells #[.int .i64 t'.step, .int .i64 t'.phase, .bool t'.fresh, .bool t'.done, .slice vc1 vc2 vc3, .slice mc1 mc2 mc3] 34) = W9 at *
      generalize w7.heap.size = b15 at *
      obtain ⟨yb, yc2, eym, _⟩ := W7.out.2.1.reads.2
      injection eym with eym1 eym2 eym3
      subst eym1 eym2 eym3
      have HN : Hid (∀ X, Below W9.heap.size W9 X → BX 27 X jq #[.int .i64 m, .slice aa E.length ac, .int .i64 k, .int .i64 pv] ∧ EdR X (.slice aa E.length ac) E ∧ Below w.heap.size w X ∧ BxS W0 b12 t (.slice x1 t.vals.length x3) (.slice y1 t.mail.length y3) X ∧ BxS W0 b15 t' (.slice vc1 vc2 vc3) (.slice mc1 t'.mail.length mc3) X) := fun X hX => by
        obtain ⟨h1, h2, h3⟩ := W7.out
        obtain ⟨h4, h5, h6⟩ := HK.out X (h3.trans (hX.mono h3.size))
        exact ⟨h4, h5, h6, h1.below hX, h2.below hX⟩
      clear W7 HK
      go_wp2_with fail
      have MZ : Hid (manyL (t'.mail.take 0) = 0) := rfl
      go_loopw [17, 18] (fun s i wr => ∃ v : Nat, v ≤ t'.mail.length ∧ i = .int .i64 v ∧ s = .int .i64 ((manyL (t'.mail.take v) : Nat) : Int) ∧ Below W9.heap.size W9 wr) (fun _ i _ => t'.mail.length - (intOf i).toNat)
      case atStart => exact ⟨0, by omega, rfl, by rw [MZ.out]; rfl, Below.refl _ _⟩
      case round =>
        obtain ⟨v, hv, rfl, rfl, hbl⟩ := hrel
        have AB : Hid (Below W9.heap.size W9 wr) := hbl
        obtain ⟨_, _, _, _, hx15⟩ := HN.out _ hbl
        obtain ⟨⟨d0, d1, d2, d3, d4, d5⟩, _⟩ := hx15.x.all6
        have LR := hx15.reads.2
        clear hbl hx15
        by_cases hltv : v < t'.mail.length
        · obtain ⟨bm, om, cm', e7, ltm, _, _, hvb2⟩ := LR.at (by omega)
          injection e7 with e7 _ e8
          subst e7 e8
          obtain ⟨l, hl⟩ := getX hltv
          obtain ⟨u, hu, hur⟩ := hvb2 v l hl
          obtain ⟨ua, uc, rfl⟩ := hur.shape
          have HMN : Hid (manyL (t'.mail.take (v + 1)) = manyL (t'.mail.take v) + l.length) := manyL_take hl
          have hle : manyL (t'.mail.take (v + 1)) ≤ manyL t'.mail := manyL_le _ _
          rw [HMN.out] at hle
          generalize manyL (t'.mail.take v) = mv at *
          have wa : IntKind.i64.wrap ((mv : Int) + (l.length : Int)) = ((mv + l.length : Nat) : Int) := by rw [wrap_id64 (by omega) (by omega)]; omega
          have p0 : (0 : Int) ≤ (v : Int) := by omega
          have p1 : (v : Int) < (t'.mail.length : Int) := by omega
          clear hvb2 hl hur LR hle
          go_wp2_with fail
          go_roundw
          case rel => exact ⟨v + 1, by omega, by go_num, by rw [HMN.out]; try (congr 1; try omega), AB.out⟩
          case measure => simp [intOf]; omega
        · have hvm : t'.mail.take v = t'.mail := List.take_of_length_le (by omega)
          rw [hvm]
          obtain ⟨V1, rfl⟩ : ∃ V, V = wr := ⟨wr, rfl⟩
          clear LR hvm
          have hfew2 := hfew
          generalize hMM : manyL t'.mail = M at *
          clear hMM
          rcases Bool.eq_false_or_eq_true t.done with hd | hd
          · have HM0 : Hid (M = 0) := HDZ.out hd
            have HDD : Hid (t.done = true) := hd
            clear hd HDZ HNZ HFL hfew hfew2
            go_wp2_with fail
            clear d0 d1 d2 d3 d4 d5
            go_loopw [19, 20] (fun s i wr => s = .int .i64 0 ∧ i = .int .i64 0 ∧ Below W9.heap.size W9 wr) (fun _ _ _ => 0)
            case atStart => exact ⟨rfl, rfl, AB.out⟩
            case round =>
              obtain ⟨rfl, rfl, hbl⟩ := hrel
              obtain ⟨J5, _, BW5, hx12, hx15⟩ := HN.out _ hbl
              have BW : Hid (Below w.heap.size w wr) := BW5
              obtain ⟨j0, j1, j2, j3⟩ := J5.all4
              obtain ⟨⟨c0, c1, c2, c3, c4, c5⟩, _⟩ := hx12.x.all6
              obtain ⟨⟨d0, d1, d2, d3, d4, d5⟩, _⟩ := hx15.x.all6
              rw [HDD.out] at c3
              have t0m : decide ((0 : Int) < (m : Int)) = true := by simp; omega
              have t0m' : (0 : Int) < (m : Int) := by omega
              have em := HM0.out
              subst em
              clear hbl J5 hx12 hx15 BW5
              go_wp2_with fail
              go_ret
              exact ⟨rfl, BW.out⟩
          · have HMW : Hid (M = wantN j (rndV j pv t) E m) := HNZ.out hd
            have HDD : Hid (t.done = false) := hd
            obtain ⟨hkj, hpj⟩ := jobs_of HJ.out
            have HKJ : Hid (k = Jb.k j) := hkj
            have HPJ : Hid (t.phase = Jb.p j) := hpj
            have CWY : Hid (∀ X, Calls Try.prog 12 #[.int .i64 k, .int .i64 t.phase] X fun e w' => e = .returned (.tuple #[.bool (wayJ j).1, .bool (wayJ j).2, .int .i64 0]) ∧ Below X.heap.size X w') := fun X => by rw [HKJ.out, HPJ.out]; exact waysP_any j X
            have HWK : Hid (∀ (c : Nat) (x : Ml) (l : List Int) (ua : Option Addr) (uc : Nat), t.vals[c]? = some x → t.mail[c]? = some l → ∀ X, InR X (.slice ua l.length uc) l → Calls Try.prog 11 #[.int .i64 k, .int .i64 (c : Int), .int .i64 pv, .agg #[.int .i64 x.1, .int .i64 x.2], .int .i64 t.phase, .bool t.fresh, .slice ua l.length uc] X fun e w' => ∃ v, e = .returned v ∧ (v = .tuple #[.agg #[.int .i64 (wakeV j (c : Int) pv x t.fresh l).1.1, .int .i64 (wakeV j (c : Int) pv x t.fresh l).1.2], .bool (wakeV j (c : Int) pv x t.fresh l).2, .int .i64 0] ∧ Below X.heap.size X w')) := fun c x l ua uc hx hl X hX => by
              have h1 := wake_any k (c : Int) pv x t.phase t.fresh l _ X hX
              have hc : c < t.vals.length := (List.getElem?_eq_some_iff.1 hx).1
              have e : wakeF k (c : Int) pv x t.phase t.fresh l = wakeJ j (c : Int) pv x t.fresh l := by unfold wakeF; rw [HJ.out]
              have hlv2 := HLV.out
              rw [e, wake_fit (by omega) (HVB.out x (List.mem_of_getElem? hx)) (HMB.out l (List.mem_of_getElem? hl))] at h1
              exact h1.mono fun e w' h => ⟨_, h.1, rfl, h.2⟩
            have RY : Hid (∀ (c : Nat) (x : Ml) (l : List Int), t.vals[c]? = some x → t.mail[c]? = some l → t.fresh = true ∨ 0 < l.length → rndV j pv t (c : Int) = wakeV j (c : Int) pv x t.fresh l) := fun c x l hx hl h => rnd_yes hx hl h
            have RN : Hid (∀ (c : Nat) (x : Ml) (l : List Int), t.vals[c]? = some x → t.mail[c]? = some l → t.fresh = false → ¬ 0 < l.length → rndV j pv t (c : Int) = (x, false)) := fun c x l hx hl h h2 => rnd_no hx hl h h2
            have hlv1 : m ≤ t.vals.length := Nat.le_of_eq HLV.out.symm
            have hlm1 : m ≤ t.mail.length := Nat.le_of_eq HLT.out.symm
            have HWL : Hid (∀ v, v ≤ m → wantN j (rndV j pv t) E v ≤ 200) := fun v hv => by
              have h1 := wantN_le j (rndV j pv t) E v
              have h2 : v * (2 * E.length) ≤ 6 * 20 := Nat.mul_le_mul (by omega) (by omega)
              omega
            clear hkj hpj hd HDZ HNZ HKJ HPJ
            have HS0 : Hid (∀ v : Int, (rndV j pv t v).2 = false → cntV j (rndV j pv t) E v = 0) := fun v h => cntV_not h
            have HS1 : Hid (∀ v : Int, (rndV j pv t v).2 = true → cntV j (rndV j pv t) E v = inN (wayJ j).1 (wayJ j).2 v E) := fun v h => cntV_said h
            have HS2 : Hid (∀ v, wantN j (rndV j pv t) E (v + 1) = wantN j (rndV j pv t) E v + cntV j (rndV j pv t) E (v : Int)) := fun v => wantN_succ j _ E v
            generalize rndV j pv t = r at *
            obtain ⟨wo, hwo⟩ : ∃ b, (wayJ j).1 = b := ⟨_, rfl⟩
            obtain ⟨wi, hwi⟩ : ∃ b, (wayJ j).2 = b := ⟨_, rfl⟩
            rw [hwo, hwi] at CWY HS1
            clear hwo hwi
            go_wp2_with fail
            clear d0 d1 d2 d3 d4 d5
            have WZ : Hid (wantN j r E 0 = 0) := wantN_zero j r E
            go_loopw [19, 20] (fun s i wr => ∃ v : Nat, v ≤ m ∧ i = .int .i64 v ∧ s = .int .i64 ((wantN j r E v : Nat) : Int) ∧ Below W9.heap.size W9 wr) (fun _ i _ => m - (intOf i).toNat)
            case atStart => exact ⟨0, by omega, rfl, by rw [WZ.out]; rfl, AB.out⟩
            case round =>
              clear AB WZ
              obtain ⟨v, hvm, rfl, rfl, hbl⟩ := hrel
              have AB : Hid (Below W9.heap.size W9 wr) := hbl
              have hsr9 := hbl.size
              obtain ⟨J5, E5, BW5, hx12, hx15⟩ := HN.out _ hbl
              have BW : Hid (Below w.heap.size w wr) := BW5
              obtain ⟨j0, j1, j2, j3⟩ := J5.all4
              obtain ⟨⟨c0, c1, c2, c3, c4, c5⟩, _⟩ := hx12.x.all6
              rw [HDD.out] at c3
              obtain ⟨MV, ML⟩ := hx12.reads
              have hwl := HWL.out v hvm
              by_cases hltv : v < m
              · have tvm : decide ((v : Int) < (m : Int)) = true := by simp; omega
                have tvm' : (v : Int) < (m : Int) := by omega
                obtain ⟨bv, ov, cv', e5, ltv, hvv⟩ := MlR.read MV (by omega)
                injection e5 with e5 _ e6
                subst e5 e6
                obtain ⟨bm, om, cm', e7, ltm, _, _, hvb2⟩ := ML.at (by omega)
                injection e7 with e7 _ e8
                subst e7 e8
                obtain ⟨x, hx⟩ := getX (show v < t.vals.length by omega)
                obtain ⟨l, hl⟩ := getX (show v < t.mail.length by omega)
                obtain ⟨y0, y1⟩ := hvv v x hx
                obtain ⟨u, hu, hur⟩ := hvb2 v l hl
                have UR : Hid (InR wr u l) := hur
                obtain ⟨ua, uc, rfl⟩ := hur.shape
                have HY1 : Hid (t.fresh = true ∨ 0 < l.length → r (v : Int) = wakeV j (v : Int) pv x t.fresh l) := RY.out v x l hx hl
                have HN1 : Hid (t.fresh = false → ¬ 0 < l.length → r (v : Int) = (x, false)) := RN.out v x l hx hl
                have HWC := HWK.out v x l ua uc hx hl
                have HW2 : Hid (wantN j r E (v + 1) = wantN j r E v + cntV j r E (v : Int)) := HS2.out v
                have p0 : (0 : Int) ≤ (v : Int) := by omega
                have p1 : (v : Int) < (t.vals.length : Int) := by omega
                have p2 : (v : Int) < (t.mail.length : Int) := by omega
                have hul : l.length ≤ 9223372036854775807 := by obtain ⟨_, _, e, h1, h2, _⟩ := hur; unfold maxLen at h2; omega
                have HC1 : Hid (∀ V, Below wr.heap.size wr V → (V.cell? ⟨jq, 2, none⟩ = some (.int .i64 k) ∧ V.cell? ⟨jq, 3, none⟩ = some (.int .i64 pv) ∧ V.cell? ⟨b12, 1, none⟩ = some (.int .i64 t.phase) ∧ V.cell? ⟨b12, 2, none⟩ = some (.bool t.fresh) ∧ V.cell? ⟨b12, 4, none⟩ = some (.slice (some ⟨bv, ov, none⟩) t.vals.length x3) ∧ V.cell? ⟨b12, 5, none⟩ = some (.slice (some ⟨bm, om, none⟩) t.mail.length y3)) ∧ V.cell? ⟨bv, ov + v * 2, none⟩ = some (.int .i64 x.1) ∧ V.cell? ⟨bv, ov + v * 2 + 1, none⟩ = some (.int .i64 x.2) ∧ V.cell? ⟨bm, om + v, none⟩ = some (.slice ua l.length uc)) := fun V hV => by
                  obtain ⟨Q4, _, _, T4, _⟩ := HN.out V (AB.out.trans (hV.mono hsr9))
                  obtain ⟨_, _, g2, g3⟩ := Q4.all4
                  obtain ⟨⟨_, h1, h2, _, h4, h5⟩, _⟩ := T4.x.all6
                  exact ⟨⟨g2, g3, h1, h2, h4, h5⟩, (hV.cell (p := ⟨bv, ov + v * 2, none⟩) ltv).trans y0, (hV.cell (p := ⟨bv, ov + v * 2 + 1, none⟩) ltv).trans y1, (hV.cell (p := ⟨bm, om + v, none⟩) ltm).trans hu⟩
                clear hbl J5 E5 BW5 hx12 hx15 MV ML hvv hvb2 hx hl hur y0 y1 RY RN HWK HWL HS2 BW
                go_upto_region 19 with fail
                obtain ⟨sk, hsk⟩ : ∃ b : Bool, b = decide (t.fresh = false ∧ ¬ 0 < l.length) := ⟨_, rfl⟩
                have HSK : Hid (sk = decide (t.fresh = false ∧ ¬ 0 < l.length)) := hsk
                clear hsk
                go_cut [109] from 98 to 109 (fun p wx => p = .bool sk ∧ wr = wx)
                case first =>
                  rcases Bool.eq_false_or_eq_true t.fresh with hfr | hfr
                  · have e9 : Hid (Value.bool false = .bool sk) := by show _ = _; rw [HSK.out, decide_eq_false (by rw [hfr]; simp)]
                    rw [hfr] at c2
                    clear hfr HSK HY1 HN1 HC1 HS0 HS1 HW2 HWC
                    go_wp2_with fail
                    go_meet
                    case rel => exact ⟨e9.out, rfl⟩
                  · by_cases hll : 0 < l.length
                    · have e9 : Hid (Value.bool false = .bool sk) := by show _ = _; rw [HSK.out, decide_eq_false (fun h => h.2 hll)]
                      have tll : ((l.length : Int) == 0) = false := beq_eq_false_iff_ne.2 (by omega)
                      rw [hfr] at c2
                      clear hfr HSK HY1 HN1 HC1 HS0 HS1 HW2 HWC
                      go_wp2_with fail
                      go_meet
                      case rel => exact ⟨e9.out, rfl⟩
                    · have e9 : Hid (Value.bool true = .bool sk) := by show _ = _; rw [HSK.out, decide_eq_true ⟨hfr, hll⟩]
                      have h0 : l.length = 0 := by omega
                      rw [h0] at hu
                      rw [hfr] at c2
                      clear hfr hll h0 HSK HY1 HN1 HC1 HS0 HS1 HW2 HWC UR hul
                      go_wp2_with fail
                      go_meet
                      case rel => exact ⟨e9.out, rfl⟩
                case rest =>
                obtain ⟨rfl, rfl⟩ := hcut
                cases sk
                · have hgo : t.fresh = true ∨ 0 < l.length := by
                    have h := of_decide_eq_false HSK.out.symm
                    rcases Bool.eq_false_or_eq_true t.fresh with h1 | h1
                    · exact .inl h1
                    · exact .inr (Nat.pos_of_ne_zero fun h0 => h ⟨h1, by omega⟩)
                  have HRV : Hid (r (v : Int) = wakeV j (v : Int) pv x t.fresh l) := HY1.out hgo
                  generalize wakeV j (v : Int) pv x t.fresh l = R at *
                  obtain ⟨⟨R1, R2⟩, R3⟩ := R
                  simp only at HWC
                  have HWC1 : Hid (∀ X, Below wr.heap.size wr X → _) := fun X hX => HWC X (UR.out.below hX (Nat.le_refl _))
                  have ew : ∀ args w, (callFunc 11 args).run Try.prog w = .ok (.enter 11 args) w := enters_of Try.func11 (by kernel_rfl) rfl
                  have HSD : Hid (r (v : Int) = ((R1, R2), R3)) := HRV.out
                  clear HWC UR HY1 HN1 HRV hgo HSK
                  go_upto_region 20 with fail
                  go_cut [21, 22, 23] from 110 to 133 (fun p s e wx => (∃ q, p = .pointer (some ⟨q, 0, none⟩)) ∧ s = .bool R3 ∧ e = .int .i64 0 ∧ Below wr.heap.size wr wx)
                  case first =>
                    clear j0 j1 j2 j3 c0 c1 c2 c3 c4 c5 hu
                    have B0 : Below wr.heap.size wr wr.drew := (Below.refl _ _).drew
                    have HS0X : Hid ((wr.drew.cell? ⟨jq, 2, none⟩ = some (.int .i64 k) ∧ wr.drew.cell? ⟨jq, 3, none⟩ = some (.int .i64 pv) ∧ wr.drew.cell? ⟨b12, 1, none⟩ = some (.int .i64 t.phase) ∧ wr.drew.cell? ⟨b12, 2, none⟩ = some (.bool t.fresh) ∧ wr.drew.cell? ⟨b12, 4, none⟩ = some (.slice (some ⟨bv, ov, none⟩) t.vals.length x3) ∧ wr.drew.cell? ⟨b12, 5, none⟩ = some (.slice (some ⟨bm, om, none⟩) t.mail.length y3)) ∧ wr.drew.cell? ⟨bv, ov + v * 2, none⟩ = some (.int .i64 x.1) ∧ wr.drew.cell? ⟨bv, ov + v * 2 + 1, none⟩ = some (.int .i64 x.2) ∧ wr.drew.cell? ⟨bm, om + v, none⟩ = some (.slice ua l.length uc)) := HC1.out _ B0
                    refine wp_region_held (S := fun V => ((V.cell? ⟨jq, 2, none⟩ = some (.int .i64 k) ∧ V.cell? ⟨jq, 3, none⟩ = some (.int .i64 pv) ∧ V.cell? ⟨b12, 1, none⟩ = some (.int .i64 t.phase) ∧ V.cell? ⟨b12, 2, none⟩ = some (.bool t.fresh) ∧ V.cell? ⟨b12, 4, none⟩ = some (.slice (some ⟨bv, ov, none⟩) t.vals.length x3) ∧ V.cell? ⟨b12, 5, none⟩ = some (.slice (some ⟨bm, om, none⟩) t.mail.length y3)) ∧ V.cell? ⟨bv, ov + v * 2, none⟩ = some (.int .i64 x.1) ∧ V.cell? ⟨bv, ov + v * 2 + 1, none⟩ = some (.int .i64 x.2) ∧ V.cell? ⟨bm, om + v, none⟩ = some (.slice ua l.length uc))) (by kernel_rfl) ?_
                    simp only [List.size_toArray, List.length_cons, List.length_nil, Nat.reduceAdd]
                    refine takeH (i := 0) (v := .pointer (some ⟨jq, 2, none⟩)) (d := 111) rfl rfl (by kernel_rfl) (by kernel_rfl) (by kernel_rfl) (fun _ _ _ h => h) (by rfl) (fun V hV => by obtain ⟨⟨v1, v2, v3, v4, v5, v6⟩, v7, v8, v9⟩ := hV; go_simp) HS0X.out ?_
                    simp only [Act.put, List.setIfInBounds_toArray, List.set_cons_zero, List.set_cons_succ]
                    refine takeH (i := 1) (v := .int .i64 k) (d := 112) rfl rfl (by kernel_rfl) (by kernel_rfl) (by kernel_rfl) (fun _ _ _ h => h) (by rfl) (fun V hV => by obtain ⟨⟨v1, v2, v3, v4, v5, v6⟩, v7, v8, v9⟩ := hV; go_simp) HS0X.out ?_
                    simp only [Act.put, List.setIfInBounds_toArray, List.set_cons_zero, List.set_cons_succ]
                    refine takeH (i := 2) (v := .int .i64 (v : Int)) (d := 113) rfl rfl (by kernel_rfl) (by kernel_rfl) (by kernel_rfl) (fun _ _ _ h => h) (by rfl) (fun V hV => by obtain ⟨⟨v1, v2, v3, v4, v5, v6⟩, v7, v8, v9⟩ := hV; go_simp) HS0X.out ?_
                    simp only [Act.put, List.setIfInBounds_toArray, List.set_cons_zero, List.set_cons_succ]
                    refine takeH (i := 3) (v := .pointer (some ⟨jq, 3, none⟩)) (d := 114) rfl rfl (by kernel_rfl) (by kernel_rfl) (by kernel_rfl) (fun _ _ _ h => h) (by rfl) (fun V hV => by obtain ⟨⟨v1, v2, v3, v4, v5, v6⟩, v7, v8, v9⟩ := hV; go_simp) HS0X.out ?_
                    simp only [Act.put, List.setIfInBounds_toArray, List.set_cons_zero, List.set_cons_succ]
                    refine takeH (i := 4) (v := .int .i64 pv) (d := 115) rfl rfl (by kernel_rfl) (by kernel_rfl) (by kernel_rfl) (fun _ _ _ h => h) (by rfl) (fun V hV => by obtain ⟨⟨v1, v2, v3, v4, v5, v6⟩, v7, v8, v9⟩ := hV; go_simp) HS0X.out ?_
                    simp only [Act.put, List.setIfInBounds_toArray, List.set_cons_zero, List.set_cons_succ]
                    refine takeH (i := 5) (v := .pointer (some ⟨b12, 4, none⟩)) (d := 116) rfl rfl (by kernel_rfl) (by kernel_rfl) (by kernel_rfl) (fun _ _ _ h => h) (by rfl) (fun V hV => by obtain ⟨⟨v1, v2, v3, v4, v5, v6⟩, v7, v8, v9⟩ := hV; go_simp) HS0X.out ?_
                    simp only [Act.put, List.setIfInBounds_toArray, List.set_cons_zero, List.set_cons_succ]
                    refine takeH (i := 6) (v := .slice (some ⟨bv, ov, none⟩) t.vals.length x3) (d := 117) rfl rfl (by kernel_rfl) (by kernel_rfl) (by kernel_rfl) (fun _ _ _ h => h) (by rfl) (fun V hV => by obtain ⟨⟨v1, v2, v3, v4, v5, v6⟩, v7, v8, v9⟩ := hV; go_simp) HS0X.out ?_
                    simp only [Act.put, List.setIfInBounds_toArray, List.set_cons_zero, List.set_cons_succ]
                    refine takeH (i := 7) (v := .int .i64 (v : Int)) (d := 118) rfl rfl (by kernel_rfl) (by kernel_rfl) (by kernel_rfl) (fun _ _ _ h => h) (by rfl) (fun V hV => by obtain ⟨⟨v1, v2, v3, v4, v5, v6⟩, v7, v8, v9⟩ := hV; go_simp) HS0X.out ?_
                    simp only [Act.put, List.setIfInBounds_toArray, List.set_cons_zero, List.set_cons_succ]
                    refine takeH (i := 8) (v := .pointer (some ⟨bv, ov + v * 2, none⟩)) (d := 119) rfl rfl (by kernel_rfl) (by kernel_rfl) (by kernel_rfl) (fun _ _ _ h => h) (by rfl) (fun V hV => by obtain ⟨⟨v1, v2, v3, v4, v5, v6⟩, v7, v8, v9⟩ := hV; go_simp) HS0X.out ?_
                    simp only [Act.put, List.setIfInBounds_toArray, List.set_cons_zero, List.set_cons_succ]
                    refine takeH (i := 9) (v := .agg #[.int .i64 x.1, .int .i64 x.2]) (d := 120) rfl rfl (by kernel_rfl) (by kernel_rfl) (by kernel_rfl) (fun _ _ _ h => h) (by rfl) (fun V hV => by obtain ⟨⟨v1, v2, v3, v4, v5, v6⟩, v7, v8, v9⟩ := hV; go_simp) HS0X.out ?_
                    simp only [Act.put, List.setIfInBounds_toArray, List.set_cons_zero, List.set_cons_succ]
                    refine takeH (i := 10) (v := .pointer (some ⟨b12, 1, none⟩)) (d := 121) rfl rfl (by kernel_rfl) (by kernel_rfl) (by kernel_rfl) (fun _ _ _ h => h) (by rfl) (fun V hV => by obtain ⟨⟨v1, v2, v3, v4, v5, v6⟩, v7, v8, v9⟩ := hV; go_simp) HS0X.out ?_
                    simp only [Act.put, List.setIfInBounds_toArray, List.set_cons_zero, List.set_cons_succ]
                    refine takeH (i := 11) (v := .int .i64 t.phase) (d := 122) rfl rfl (by kernel_rfl) (by kernel_rfl) (by kernel_rfl) (fun _ _ _ h => h) (by rfl) (fun V hV => by obtain ⟨⟨v1, v2, v3, v4, v5, v6⟩, v7, v8, v9⟩ := hV; go_simp) HS0X.out ?_
                    simp only [Act.put, List.setIfInBounds_toArray, List.set_cons_zero, List.set_cons_succ]
                    refine takeH (i := 12) (v := .pointer (some ⟨b12, 2, none⟩)) (d := 123) rfl rfl (by kernel_rfl) (by kernel_rfl) (by kernel_rfl) (fun _ _ _ h => h) (by rfl) (fun V hV => by obtain ⟨⟨v1, v2, v3, v4, v5, v6⟩, v7, v8, v9⟩ := hV; go_simp) HS0X.out ?_
                    simp only [Act.put, List.setIfInBounds_toArray, List.set_cons_zero, List.set_cons_succ]
                    refine takeH (i := 13) (v := .bool t.fresh) (d := 124) rfl rfl (by kernel_rfl) (by kernel_rfl) (by kernel_rfl) (fun _ _ _ h => h) (by rfl) (fun V hV => by obtain ⟨⟨v1, v2, v3, v4, v5, v6⟩, v7, v8, v9⟩ := hV; go_simp) HS0X.out ?_
                    simp only [Act.put, List.setIfInBounds_toArray, List.set_cons_zero, List.set_cons_succ]
                    refine takeH (i := 14) (v := .pointer (some ⟨b12, 5, none⟩)) (d := 125) rfl rfl (by kernel_rfl) (by kernel_rfl) (by kernel_rfl) (fun _ _ _ h => h) (by rfl) (fun V hV => by obtain ⟨⟨v1, v2, v3, v4, v5, v6⟩, v7, v8, v9⟩ := hV; go_simp) HS0X.out ?_
                    simp only [Act.put, List.setIfInBounds_toArray, List.set_cons_zero, List.set_cons_succ]
                    refine takeH (i := 15) (v := .slice (some ⟨bm, om, none⟩) t.mail.length y3) (d := 126) rfl rfl (by kernel_rfl) (by kernel_rfl) (by kernel_rfl) (fun _ _ _ h => h) (by rfl) (fun V hV => by obtain ⟨⟨v1, v2, v3, v4, v5, v6⟩, v7, v8, v9⟩ := hV; go_simp) HS0X.out ?_
                    simp only [Act.put, List.setIfInBounds_toArray, List.set_cons_zero, List.set_cons_succ]
                    refine takeH (i := 16) (v := .int .i64 (v : Int)) (d := 127) rfl rfl (by kernel_rfl) (by kernel_rfl) (by kernel_rfl) (fun _ _ _ h => h) (by rfl) (fun V hV => by obtain ⟨⟨v1, v2, v3, v4, v5, v6⟩, v7, v8, v9⟩ := hV; go_simp) HS0X.out ?_
                    simp only [Act.put, List.setIfInBounds_toArray, List.set_cons_zero, List.set_cons_succ]
                    refine takeH (i := 17) (v := .pointer (some ⟨bm, om + v, none⟩)) (d := 128) rfl rfl (by kernel_rfl) (by kernel_rfl) (by kernel_rfl) (fun _ _ _ h => h) (by rfl) (fun V hV => by obtain ⟨⟨v1, v2, v3, v4, v5, v6⟩, v7, v8, v9⟩ := hV; go_simp) HS0X.out ?_
                    simp only [Act.put, List.setIfInBounds_toArray, List.set_cons_zero, List.set_cons_succ]
                    refine takeH (i := 18) (v := .slice ua l.length uc) (d := 129) rfl rfl (by kernel_rfl) (by kernel_rfl) (by kernel_rfl) (fun _ _ _ h => h) (by rfl) (fun V hV => by obtain ⟨⟨v1, v2, v3, v4, v5, v6⟩, v7, v8, v9⟩ := hV; go_simp) HS0X.out ?_
                    simp only [Act.put, List.setIfInBounds_toArray, List.set_cons_zero, List.set_cons_succ]
                    refine twoH (i := 19) (j := 24) rfl rfl (by kernel_rfl) rfl rfl ?wayc ?waya
                    case wayc =>
                      refine call_gets (d := 130) (f := 11) (xs := #[.tmp 112, .tmp 113, .tmp 115, .tmp 120, .tmp 122, .tmp 124, .tmp 129]) (ats := #[3, 3, 3, 44, 3, 4, 30]) rfl rfl ew (vs := #[.int .i64 k, .int .i64 (v : Int), .int .i64 pv, .agg #[.int .i64 x.1, .int .i64 x.2], .int .i64 t.phase, .bool t.fresh, .slice ua l.length uc]) (by simp [Act.eval]) (HWC1.out _ B0) ?_
                      rintro vr w6 ⟨rfl, hb6⟩
                      have b6 : Below wr.heap.size wr w6 := B0.trans (hb6.mono B0.size)
                      have HS6 : Hid ((w6.cell? ⟨jq, 2, none⟩ = some (.int .i64 k) ∧ w6.cell? ⟨jq, 3, none⟩ = some (.int .i64 pv) ∧ w6.cell? ⟨b12, 1, none⟩ = some (.int .i64 t.phase) ∧ w6.cell? ⟨b12, 2, none⟩ = some (.bool t.fresh) ∧ w6.cell? ⟨b12, 4, none⟩ = some (.slice (some ⟨bv, ov, none⟩) t.vals.length x3) ∧ w6.cell? ⟨b12, 5, none⟩ = some (.slice (some ⟨bm, om, none⟩) t.mail.length y3)) ∧ w6.cell? ⟨bv, ov + v * 2, none⟩ = some (.int .i64 x.1) ∧ w6.cell? ⟨bv, ov + v * 2 + 1, none⟩ = some (.int .i64 x.2) ∧ w6.cell? ⟨bm, om + v, none⟩ = some (.slice ua l.length uc)) := HC1.out _ b6
                      refine ⟨HS6.out, ?_⟩
                      simp only [Act.put, List.setIfInBounds_toArray, List.set_cons_zero, List.set_cons_succ]
                      refine takeH (i := 20) (v := .tuple #[.agg #[.int .i64 R1, .int .i64 R2], .bool R3, .int .i64 0]) (d := 110) rfl rfl (by kernel_rfl) (by kernel_rfl) (by kernel_rfl) (fun _ _ _ h => h) (by rfl) (fun V hV => by obtain ⟨⟨v1, v2, v3, v4, v5, v6⟩, v7, v8, v9⟩ := hV; go_simp) HS6.out ?_
                      simp only [Act.put, List.setIfInBounds_toArray, List.set_cons_zero, List.set_cons_succ]
                      refine takeH (i := 21) (v := .agg #[.int .i64 R1, .int .i64 R2]) (d := 131) rfl rfl (by kernel_rfl) (by kernel_rfl) (by kernel_rfl) (fun _ _ _ h => h) (by rfl) (fun V hV => by obtain ⟨⟨v1, v2, v3, v4, v5, v6⟩, v7, v8, v9⟩ := hV; go_simp) HS6.out ?_
                      simp only [Act.put, List.setIfInBounds_toArray, List.set_cons_zero, List.set_cons_succ]
                      refine takeH (i := 22) (v := .bool R3) (d := 132) rfl rfl (by kernel_rfl) (by kernel_rfl) (by kernel_rfl) (fun _ _ _ h => h) (by rfl) (fun V hV => by obtain ⟨⟨v1, v2, v3, v4, v5, v6⟩, v7, v8, v9⟩ := hV; go_simp) HS6.out ?_
                      simp only [Act.put, List.setIfInBounds_toArray, List.set_cons_zero, List.set_cons_succ]
                      refine takeH (i := 23) (v := .int .i64 0) (d := 133) rfl rfl (by kernel_rfl) (by kernel_rfl) (by kernel_rfl) (fun _ _ _ h => h) (by rfl) (fun V hV => by obtain ⟨⟨v1, v2, v3, v4, v5, v6⟩, v7, v8, v9⟩ := hV; go_simp) HS6.out ?_
                      simp only [Act.put, List.setIfInBounds_toArray, List.set_cons_zero, List.set_cons_succ]
                      have XA : BX 44 (w6.alloc (.cells #[.int .i64 0, .int .i64 0] 44)) w6.heap.size #[.int .i64 0, .int .i64 0] := BX.new _ _ _
                      have BA : Below wr.heap.size wr (w6.alloc (.cells #[.int .i64 0, .int .i64 0] 44)) := b6.alloc b6.size _
                      have HSA : Hid (((w6.alloc (.cells #[.int .i64 0, .int .i64 0] 44)).cell? ⟨jq, 2, none⟩ = some (.int .i64 k) ∧ (w6.alloc (.cells #[.int .i64 0, .int .i64 0] 44)).cell? ⟨jq, 3, none⟩ = some (.int .i64 pv) ∧ (w6.alloc (.cells #[.int .i64 0, .int .i64 0] 44)).cell? ⟨b12, 1, none⟩ = some (.int .i64 t.phase) ∧ (w6.alloc (.cells #[.int .i64 0, .int .i64 0] 44)).cell? ⟨b12, 2, none⟩ = some (.bool t.fresh) ∧ (w6.alloc (.cells #[.int .i64 0, .int .i64 0] 44)).cell? ⟨b12, 4, none⟩ = some (.slice (some ⟨bv, ov, none⟩) t.vals.length x3) ∧ (w6.alloc (.cells #[.int .i64 0, .int .i64 0] 44)).cell? ⟨b12, 5, none⟩ = some (.slice (some ⟨bm, om, none⟩) t.mail.length y3)) ∧ (w6.alloc (.cells #[.int .i64 0, .int .i64 0] 44)).cell? ⟨bv, ov + v * 2, none⟩ = some (.int .i64 x.1) ∧ (w6.alloc (.cells #[.int .i64 0, .int .i64 0] 44)).cell? ⟨bv, ov + v * 2 + 1, none⟩ = some (.int .i64 x.2) ∧ (w6.alloc (.cells #[.int .i64 0, .int .i64 0] 44)).cell? ⟨bm, om + v, none⟩ = some (.slice ua l.length uc)) := HC1.out _ BA
                      refine oneH (i := 24) rfl (by kernel_rfl) rfl (op_run (d := 21) (v' := .pointer (some ⟨w6.heap.size, 0, none⟩)) (w' := w6.alloc (.cells #[.int .i64 0, .int .i64 0] 44)) rfl (by go_simp) ⟨HSA.out, ?_⟩)
                      simp only [Act.put, List.setIfInBounds_toArray, List.set_cons_zero, List.set_cons_succ]
                      obtain ⟨m0, m1, m2, m3⟩ := XA.all2
                      have BP : Below wr.heap.size wr (put2 (w6.alloc (.cells #[.int .i64 0, .int .i64 0] 44)) (w6.heap.size) (.int .i64 R1) (.int .i64 R2)) := below_put2 BA b6.size _ _
                      have HSP : Hid (((put2 (w6.alloc (.cells #[.int .i64 0, .int .i64 0] 44)) (w6.heap.size) (.int .i64 R1) (.int .i64 R2)).cell? ⟨jq, 2, none⟩ = some (.int .i64 k) ∧ (put2 (w6.alloc (.cells #[.int .i64 0, .int .i64 0] 44)) (w6.heap.size) (.int .i64 R1) (.int .i64 R2)).cell? ⟨jq, 3, none⟩ = some (.int .i64 pv) ∧ (put2 (w6.alloc (.cells #[.int .i64 0, .int .i64 0] 44)) (w6.heap.size) (.int .i64 R1) (.int .i64 R2)).cell? ⟨b12, 1, none⟩ = some (.int .i64 t.phase) ∧ (put2 (w6.alloc (.cells #[.int .i64 0, .int .i64 0] 44)) (w6.heap.size) (.int .i64 R1) (.int .i64 R2)).cell? ⟨b12, 2, none⟩ = some (.bool t.fresh) ∧ (put2 (w6.alloc (.cells #[.int .i64 0, .int .i64 0] 44)) (w6.heap.size) (.int .i64 R1) (.int .i64 R2)).cell? ⟨b12, 4, none⟩ = some (.slice (some ⟨bv, ov, none⟩) t.vals.length x3) ∧ (put2 (w6.alloc (.cells #[.int .i64 0, .int .i64 0] 44)) (w6.heap.size) (.int .i64 R1) (.int .i64 R2)).cell? ⟨b12, 5, none⟩ = some (.slice (some ⟨bm, om, none⟩) t.mail.length y3)) ∧ (put2 (w6.alloc (.cells #[.int .i64 0, .int .i64 0] 44)) (w6.heap.size) (.int .i64 R1) (.int .i64 R2)).cell? ⟨bv, ov + v * 2, none⟩ = some (.int .i64 x.1) ∧ (put2 (w6.alloc (.cells #[.int .i64 0, .int .i64 0] 44)) (w6.heap.size) (.int .i64 R1) (.int .i64 R2)).cell? ⟨bv, ov + v * 2 + 1, none⟩ = some (.int .i64 x.2) ∧ (put2 (w6.alloc (.cells #[.int .i64 0, .int .i64 0] 44)) (w6.heap.size) (.int .i64 R1) (.int .i64 R2)).cell? ⟨bm, om + v, none⟩ = some (.slice ua l.length uc)) := HC1.out _ BP
                      refine oneH (i := 25) rfl (by kernel_rfl) rfl (op_skip (w' := put2 (w6.alloc (.cells #[.int .i64 0, .int .i64 0] 44)) (w6.heap.size) (.int .i64 R1) (.int .i64 R2)) rfl (by unfold put2; go_simp) ⟨HSP.out, ?_⟩)
                      refine takeH (i := 26) (v := .bool R3) (d := 22) rfl rfl (by kernel_rfl) (by kernel_rfl) (by kernel_rfl) (fun _ _ _ h => h) (by rfl) (fun V hV => by obtain ⟨⟨v1, v2, v3, v4, v5, v6⟩, v7, v8, v9⟩ := hV; go_simp) HSP.out ?_
                      simp only [Act.put, List.setIfInBounds_toArray, List.set_cons_zero, List.set_cons_succ]
                      refine takeH (i := 27) (v := .int .i64 0) (d := 23) rfl rfl (by kernel_rfl) (by kernel_rfl) (by kernel_rfl) (fun _ _ _ h => h) (by rfl) (fun V hV => by obtain ⟨⟨v1, v2, v3, v4, v5, v6⟩, v7, v8, v9⟩ := hV; go_simp) HSP.out ?_
                      simp only [Act.put, List.setIfInBounds_toArray, List.set_cons_zero, List.set_cons_succ]
                      refine wpAnyH_done (by kernel_rfl) ?_ _
                      have HBP : Hid (Below wr.heap.size wr (put2 (w6.alloc (.cells #[.int .i64 0, .int .i64 0] 44)) (w6.heap.size) (.int .i64 R1) (.int .i64 R2))) := BP
                      clear HSP BP m0 m1 m2 m3
                      generalize put2 (w6.alloc (.cells #[.int .i64 0, .int .i64 0] 44)) (w6.heap.size) (.int .i64 R1) (.int .i64 R2) = WZ at *
                      first
                        | go_meet
                        | (go_wp2_with fail; go_meet)
                      case rel => exact ⟨⟨_, rfl⟩, rfl, rfl, HBP.out⟩
                    case waya =>
                      have XA : BX 44 (wr.drew.alloc (.cells #[.int .i64 0, .int .i64 0] 44)) wr.heap.size #[.int .i64 0, .int .i64 0] := BX.new _ _ _
                      have BA : Below wr.heap.size wr (wr.drew.alloc (.cells #[.int .i64 0, .int .i64 0] 44)) := B0.alloc B0.size _
                      have HSA : Hid (((wr.drew.alloc (.cells #[.int .i64 0, .int .i64 0] 44)).cell? ⟨jq, 2, none⟩ = some (.int .i64 k) ∧ (wr.drew.alloc (.cells #[.int .i64 0, .int .i64 0] 44)).cell? ⟨jq, 3, none⟩ = some (.int .i64 pv) ∧ (wr.drew.alloc (.cells #[.int .i64 0, .int .i64 0] 44)).cell? ⟨b12, 1, none⟩ = some (.int .i64 t.phase) ∧ (wr.drew.alloc (.cells #[.int .i64 0, .int .i64 0] 44)).cell? ⟨b12, 2, none⟩ = some (.bool t.fresh) ∧ (wr.drew.alloc (.cells #[.int .i64 0, .int .i64 0] 44)).cell? ⟨b12, 4, none⟩ = some (.slice (some ⟨bv, ov, none⟩) t.vals.length x3) ∧ (wr.drew.alloc (.cells #[.int .i64 0, .int .i64 0] 44)).cell? ⟨b12, 5, none⟩ = some (.slice (some ⟨bm, om, none⟩) t.mail.length y3)) ∧ (wr.drew.alloc (.cells #[.int .i64 0, .int .i64 0] 44)).cell? ⟨bv, ov + v * 2, none⟩ = some (.int .i64 x.1) ∧ (wr.drew.alloc (.cells #[.int .i64 0, .int .i64 0] 44)).cell? ⟨bv, ov + v * 2 + 1, none⟩ = some (.int .i64 x.2) ∧ (wr.drew.alloc (.cells #[.int .i64 0, .int .i64 0] 44)).cell? ⟨bm, om + v, none⟩ = some (.slice ua l.length uc)) := HC1.out _ BA
                      refine op_run (d := 21) (v' := .pointer (some ⟨wr.heap.size, 0, none⟩)) (w' := wr.drew.alloc (.cells #[.int .i64 0, .int .i64 0] 44)) rfl (by go_simp) ⟨HSA.out, ?_⟩
                      simp only [Act.put, List.setIfInBounds_toArray, List.set_cons_zero, List.set_cons_succ]
                      refine oneH (i := 19) rfl (by kernel_rfl) rfl (call_gets (d := 130) (f := 11) (xs := #[.tmp 112, .tmp 113, .tmp 115, .tmp 120, .tmp 122, .tmp 124, .tmp 129]) (ats := #[3, 3, 3, 44, 3, 4, 30]) rfl rfl ew (vs := #[.int .i64 k, .int .i64 (v : Int), .int .i64 pv, .agg #[.int .i64 x.1, .int .i64 x.2], .int .i64 t.phase, .bool t.fresh, .slice ua l.length uc]) (by simp [Act.eval]) (HWC1.out _ BA) ?_)
                      rintro vr w6 ⟨rfl, hb6⟩
                      have b6 : Below wr.heap.size wr w6 := BA.trans (hb6.mono BA.size)
                      have HS6 : Hid ((w6.cell? ⟨jq, 2, none⟩ = some (.int .i64 k) ∧ w6.cell? ⟨jq, 3, none⟩ = some (.int .i64 pv) ∧ w6.cell? ⟨b12, 1, none⟩ = some (.int .i64 t.phase) ∧ w6.cell? ⟨b12, 2, none⟩ = some (.bool t.fresh) ∧ w6.cell? ⟨b12, 4, none⟩ = some (.slice (some ⟨bv, ov, none⟩) t.vals.length x3) ∧ w6.cell? ⟨b12, 5, none⟩ = some (.slice (some ⟨bm, om, none⟩) t.mail.length y3)) ∧ w6.cell? ⟨bv, ov + v * 2, none⟩ = some (.int .i64 x.1) ∧ w6.cell? ⟨bv, ov + v * 2 + 1, none⟩ = some (.int .i64 x.2) ∧ w6.cell? ⟨bm, om + v, none⟩ = some (.slice ua l.length uc)) := HC1.out _ b6
                      have X6 := XA.below hb6 XA.lt
                      refine ⟨HS6.out, ?_⟩
                      simp only [Act.put, List.setIfInBounds_toArray, List.set_cons_zero, List.set_cons_succ]
                      refine takeH (i := 20) (v := .tuple #[.agg #[.int .i64 R1, .int .i64 R2], .bool R3, .int .i64 0]) (d := 110) rfl rfl (by kernel_rfl) (by kernel_rfl) (by kernel_rfl) (fun _ _ _ h => h) (by rfl) (fun V hV => by obtain ⟨⟨v1, v2, v3, v4, v5, v6⟩, v7, v8, v9⟩ := hV; go_simp) HS6.out ?_
                      simp only [Act.put, List.setIfInBounds_toArray, List.set_cons_zero, List.set_cons_succ]
                      refine takeH (i := 21) (v := .agg #[.int .i64 R1, .int .i64 R2]) (d := 131) rfl rfl (by kernel_rfl) (by kernel_rfl) (by kernel_rfl) (fun _ _ _ h => h) (by rfl) (fun V hV => by obtain ⟨⟨v1, v2, v3, v4, v5, v6⟩, v7, v8, v9⟩ := hV; go_simp) HS6.out ?_
                      simp only [Act.put, List.setIfInBounds_toArray, List.set_cons_zero, List.set_cons_succ]
                      refine takeH (i := 22) (v := .bool R3) (d := 132) rfl rfl (by kernel_rfl) (by kernel_rfl) (by kernel_rfl) (fun _ _ _ h => h) (by rfl) (fun V hV => by obtain ⟨⟨v1, v2, v3, v4, v5, v6⟩, v7, v8, v9⟩ := hV; go_simp) HS6.out ?_
                      simp only [Act.put, List.setIfInBounds_toArray, List.set_cons_zero, List.set_cons_succ]
                      refine takeH (i := 23) (v := .int .i64 0) (d := 133) rfl rfl (by kernel_rfl) (by kernel_rfl) (by kernel_rfl) (fun _ _ _ h => h) (by rfl) (fun V hV => by obtain ⟨⟨v1, v2, v3, v4, v5, v6⟩, v7, v8, v9⟩ := hV; go_simp) HS6.out ?_
                      simp only [Act.put, List.setIfInBounds_toArray, List.set_cons_zero, List.set_cons_succ]
                      obtain ⟨m0, m1, m2, m3⟩ := X6.all2
                      have BP : Below wr.heap.size wr (put2 (w6) (wr.heap.size) (.int .i64 R1) (.int .i64 R2)) := below_put2 b6 (Nat.le_refl _) _ _
                      have HSP : Hid (((put2 (w6) (wr.heap.size) (.int .i64 R1) (.int .i64 R2)).cell? ⟨jq, 2, none⟩ = some (.int .i64 k) ∧ (put2 (w6) (wr.heap.size) (.int .i64 R1) (.int .i64 R2)).cell? ⟨jq, 3, none⟩ = some (.int .i64 pv) ∧ (put2 (w6) (wr.heap.size) (.int .i64 R1) (.int .i64 R2)).cell? ⟨b12, 1, none⟩ = some (.int .i64 t.phase) ∧ (put2 (w6) (wr.heap.size) (.int .i64 R1) (.int .i64 R2)).cell? ⟨b12, 2, none⟩ = some (.bool t.fresh) ∧ (put2 (w6) (wr.heap.size) (.int .i64 R1) (.int .i64 R2)).cell? ⟨b12, 4, none⟩ = some (.slice (some ⟨bv, ov, none⟩) t.vals.length x3) ∧ (put2 (w6) (wr.heap.size) (.int .i64 R1) (.int .i64 R2)).cell? ⟨b12, 5, none⟩ = some (.slice (some ⟨bm, om, none⟩) t.mail.length y3)) ∧ (put2 (w6) (wr.heap.size) (.int .i64 R1) (.int .i64 R2)).cell? ⟨bv, ov + v * 2, none⟩ = some (.int .i64 x.1) ∧ (put2 (w6) (wr.heap.size) (.int .i64 R1) (.int .i64 R2)).cell? ⟨bv, ov + v * 2 + 1, none⟩ = some (.int .i64 x.2) ∧ (put2 (w6) (wr.heap.size) (.int .i64 R1) (.int .i64 R2)).cell? ⟨bm, om + v, none⟩ = some (.slice ua l.length uc)) := HC1.out _ BP
                      refine oneH (i := 25) rfl (by kernel_rfl) rfl (op_skip (w' := put2 (w6) (wr.heap.size) (.int .i64 R1) (.int .i64 R2)) rfl (by unfold put2; go_simp) ⟨HSP.out, ?_⟩)
                      refine takeH (i := 26) (v := .bool R3) (d := 22) rfl rfl (by kernel_rfl) (by kernel_rfl) (by kernel_rfl) (fun _ _ _ h => h) (by rfl) (fun V hV => by obtain ⟨⟨v1, v2, v3, v4, v5, v6⟩, v7, v8, v9⟩ := hV; go_simp) HSP.out ?_
                      simp only [Act.put, List.setIfInBounds_toArray, List.set_cons_zero, List.set_cons_succ]
                      refine takeH (i := 27) (v := .int .i64 0) (d := 23) rfl rfl (by kernel_rfl) (by kernel_rfl) (by kernel_rfl) (fun _ _ _ h => h) (by rfl) (fun V hV => by obtain ⟨⟨v1, v2, v3, v4, v5, v6⟩, v7, v8, v9⟩ := hV; go_simp) HSP.out ?_
                      simp only [Act.put, List.setIfInBounds_toArray, List.set_cons_zero, List.set_cons_succ]
                      refine wpAnyH_done (by kernel_rfl) ?_ _
                      have HBP : Hid (Below wr.heap.size wr (put2 (w6) (wr.heap.size) (.int .i64 R1) (.int .i64 R2))) := BP
                      clear HSP BP m0 m1 m2 m3
                      generalize put2 (w6) (wr.heap.size) (.int .i64 R1) (.int .i64 R2) = WZ at *
                      first
                        | go_meet
                        | (go_wp2_with fail; go_meet)
                      case rel => exact ⟨⟨_, rfl⟩, rfl, rfl, HBP.out⟩
                  case rest =>
                  obtain ⟨⟨vq, rfl⟩, rfl, rfl, hbc⟩ := hcut
                  have AC : Hid (Below W9.heap.size W9 wc) := AB.out.trans (hbc.mono hsr9)
                  clear HC1 hbc HWC1 j0 j1 j2 j3 c0 c1 c2 c3 c4 c5 hu
                  obtain ⟨J5, _, _, hx12, _⟩ := HN.out _ AC.out
                  obtain ⟨j0, j1, j2, j3⟩ := J5.all4
                  obtain ⟨⟨c0, c1, c2, c3, c4, c5⟩, _⟩ := hx12.x.all6
                  clear J5 hx12
                  go_wp2_with fail
                  refine (CWY.out _).mono ?_
                  rintro e w8 ⟨rfl, hb8⟩
                  have A8 : Hid (Below W9.heap.size W9 w8) := AC.out.trans (hb8.mono AC.out.size)
                  clear j0 j1 j2 j3 c0 c1 c2 c3 c4 c5 hb8 AC
                  go_wp2_with fail
                  have HQ0 : Hid (inN wo wi (v : Int) (E.take 0) = 0) := inN_nil wo wi (v : Int)
                  have HIL : Hid (∀ i, inN wo wi (v : Int) (E.take i) ≤ 20) := fun i => by
                    have h1 := inN_le wo wi (v : Int) (E.take i)
                    have h2 : (E.take i).length ≤ E.length := by rw [List.length_take]; omega
                    omega
                  go_loopw [19, 27] (fun s i wx => ∃ q : Nat, q ≤ E.length ∧ i = .int .i64 q ∧ s = .int .i64 ((wantN j r E v + (if R3 then inN wo wi (v : Int) (E.take q) else 0) : Nat) : Int) ∧ (R3 = false → q = 0) ∧ Below W9.heap.size W9 wx) (fun _ i _ => E.length - (intOf i).toNat)
                  case atStart => exact ⟨0, by omega, rfl, by rw [HQ0.out]; cases R3 <;> rfl, fun _ => rfl, A8.out⟩
                  case round =>
                    obtain ⟨q, hq, rfl, rfl, hq0, hbx⟩ := hrel
                    have AX : Hid (Below W9.heap.size W9 wr) := hbx
                    obtain ⟨J5, E5, _, _, _⟩ := HN.out _ hbx
                    obtain ⟨j0, j1, j2, j3⟩ := J5.all4
                    have hil := HIL.out q
                    have hil2 := HIL.out (q + 1)
                    clear hbx J5 A8 HQ0 HIL
                    cases R3
                    · have hq1 := hq0 rfl
                      subst hq1
                      have HNX : Hid (wantN j r E (v + 1) = wantN j r E v) := by show _ = _; rw [HW2.out, HS0.out _ (by rw [HSD.out])]; rfl
                      clear hq0 HSD HS0 HS1 HW2 E5 hil hil2
                      have esm : (wantN j r E v + (if false = true then inN wo wi (v : Int) (E.take 0) else 0) : Nat) = wantN j r E v := rfl
                      rw [esm]
                      clear esm
                      rcases Nat.eq_zero_or_pos E.length with hE | hE
                      · have tE : decide ((0 : Int) < (E.length : Int)) = false := decide_eq_false (by omega)
                        have tE' : ¬ (0 : Int) < (E.length : Int) := by omega
                        go_wp2_with fail
                        go_roundw
                        case rel => exact ⟨v + 1, by omega, by go_num, by rw [HNX.out], AX.out⟩
                        case measure => simp [intOf]; omega
                      · have tE : decide ((0 : Int) < (E.length : Int)) = true := decide_eq_true (by omega)
                        have tE' : (0 : Int) < (E.length : Int) := by omega
                        go_wp2_with fail
                        go_roundw
                        case rel => exact ⟨v + 1, by omega, by go_num, by rw [HNX.out], AX.out⟩
                        case measure => simp [intOf]; omega
                    · have esm : (wantN j r E v + (if true = true then inN wo wi (v : Int) (E.take q) else 0) : Nat) = wantN j r E v + inN wo wi (v : Int) (E.take q) := rfl
                      rw [esm]
                      clear esm hq0
                      by_cases hqE : q < E.length
                      · have tE : decide ((q : Int) < (E.length : Int)) = true := by simp; omega
                        have tE' : (q : Int) < (E.length : Int) := by omega
                        obtain ⟨eb, eo, ecap, e1, _, _, lt, hv1⟩ := EdR.at E5 (by omega)
                        injection e1 with e1 _ e3
                        subst e1 e3
                        obtain ⟨y, hy⟩ := getE hqE
                        obtain ⟨g1, g2, g3⟩ := hv1 q y hy
                        have HIN : Hid (inN wo wi (v : Int) (E.take (q + 1)) = (inN wo wi (v : Int) (E.take q) + (if wo && (y.1 == (v : Int)) then 1 else 0)) + (if wi && (y.2.1 == (v : Int)) then 1 else 0)) := by show _ = _; rw [take_snoc hy]; exact inN_snoc wo wi (v : Int) (E.take q) y
                        obtain ⟨I2, hI2⟩ : ∃ I2, inN wo wi (v : Int) (E.take (q + 1)) = I2 := ⟨_, rfl⟩
                        have HI2 : Hid (inN wo wi (v : Int) (E.take (q + 1)) = I2) := hI2
                        rw [hI2] at HIN
                        clear hI2
                        generalize inN wo wi (v : Int) (E.take q) = I1 at *
                        generalize wantN j r E v = WN at *
                        obtain ⟨y1, y2, y3⟩ := y
                        simp only at g1 g2 g3 HIN
                        have z0 : (0 : Int) ≤ (q : Int) := by omega
                        have wa : IntKind.i64.wrap (((WN + I1 : Nat) : Int) + 1) = ((WN + I1 + 1 : Nat) : Int) := by rw [wrap_id64 (by omega) (by omega)]; omega
                        have wb : IntKind.i64.wrap (((WN + I1 + 1 : Nat) : Int) + 1) = ((WN + I1 + 2 : Nat) : Int) := by rw [wrap_id64 (by omega) (by omega)]; omega
                        obtain ⟨D0, hD0⟩ : ∃ D : Int, ((WN + I1 : Nat) : Int) = D := ⟨_, rfl⟩
                        obtain ⟨D1, hD1⟩ : ∃ D : Int, ((WN + I1 + 1 : Nat) : Int) = D := ⟨_, rfl⟩
                        obtain ⟨D2, hD2⟩ : ∃ D : Int, ((WN + I1 + 2 : Nat) : Int) = D := ⟨_, rfl⟩
                        rw [hD0, hD1] at wa
                        rw [hD1, hD2] at wb
                        rw [hD0]
                        have HD0 : Hid (((WN + I1 : Nat) : Int) = D0) := hD0
                        have HD1 : Hid (((WN + I1 + 1 : Nat) : Int) = D1) := hD1
                        have HD2 : Hid (((WN + I1 + 2 : Nat) : Int) = D2) := hD2
                        clear hD0 hD1 hD2 hv1 hy E5 hil hil2 HS0 HS1 HW2 HSD
                        have H00 : Hid ((wo && (y1 == (v : Int))) = false → (wi && (y2 == (v : Int))) = false → D0 = ((WN + I2 : Nat) : Int)) := fun h1 h2 => by rw [← HD0.out, HIN.out, h1, h2]; rfl
                        have H10 : Hid ((wo && (y1 == (v : Int))) = true → (wi && (y2 == (v : Int))) = false → D1 = ((WN + I2 : Nat) : Int)) := fun h1 h2 => by rw [← HD1.out, HIN.out, h1, h2]; rfl
                        have H01 : Hid ((wo && (y1 == (v : Int))) = false → (wi && (y2 == (v : Int))) = true → D1 = ((WN + I2 : Nat) : Int)) := fun h1 h2 => by rw [← HD1.out, HIN.out, h1, h2]; rfl
                        have H11 : Hid ((wo && (y1 == (v : Int))) = true → (wi && (y2 == (v : Int))) = true → D2 = ((WN + I2 : Nat) : Int)) := fun h1 h2 => by rw [← HD2.out, HIN.out, h1, h2]; rfl
                        clear HIN HD0 HD1 HD2
                        cases wo
                        · skip
                          cases wi
                          · have HX : Hid (_ = _) := H00.out rfl rfl
                            clear H00 H10 H01 H11
                            go_wp2_with fail
                            go_roundw
                            case rel => exact ⟨q + 1, by omega, by go_num, by rw [HI2.out, HX.out], (fun h => by cases h), AX.out⟩
                            case measure => simp [intOf]; omega
                          · by_cases ey2 : y2 = (v : Int)
                            · have ty2 : (y2 == (v : Int)) = true := by simpa using ey2
                              have HX : Hid (_ = _) := H01.out rfl (by rw [ty2]; rfl)
                              clear H00 H10 H01 H11 ey2
                              go_wp2_with fail
                              go_roundw
                              case rel => exact ⟨q + 1, by omega, by go_num, by rw [HI2.out, HX.out], (fun h => by cases h), AX.out⟩
                              case measure => simp [intOf]; omega
                            · have ty2 : (y2 == (v : Int)) = false := by simpa using ey2
                              have HX : Hid (_ = _) := H00.out rfl (by rw [ty2]; rfl)
                              clear H00 H10 H01 H11
                              go_wp2_with fail
                              go_roundw
                              case rel => exact ⟨q + 1, by omega, by go_num, by rw [HI2.out, HX.out], (fun h => by cases h), AX.out⟩
                              case measure => simp [intOf]; omega
                        · by_cases ey1 : y1 = (v : Int)
                          · have ty1 : (y1 == (v : Int)) = true := by simpa using ey1
                            clear ey1
                            cases wi
                            · have HX : Hid (_ = _) := H10.out (by rw [ty1]; rfl) rfl
                              clear H00 H10 H01 H11
                              go_wp2_with fail
                              go_roundw
                              case rel => exact ⟨q + 1, by omega, by go_num, by rw [HI2.out, HX.out], (fun h => by cases h), AX.out⟩
                              case measure => simp [intOf]; omega
                            · by_cases ey2 : y2 = (v : Int)
                              · have ty2 : (y2 == (v : Int)) = true := by simpa using ey2
                                have HX : Hid (_ = _) := H11.out (by rw [ty1]; rfl) (by rw [ty2]; rfl)
                                clear H00 H10 H01 H11 ey2
                                go_wp2_with fail
                                go_roundw
                                case rel => exact ⟨q + 1, by omega, by go_num, by rw [HI2.out, HX.out], (fun h => by cases h), AX.out⟩
                                case measure => simp [intOf]; omega
                              · have ty2 : (y2 == (v : Int)) = false := by simpa using ey2
                                have HX : Hid (_ = _) := H10.out (by rw [ty1]; rfl) (by rw [ty2]; rfl)
                                clear H00 H10 H01 H11
                                go_wp2_with fail
                                go_roundw
                                case rel => exact ⟨q + 1, by omega, by go_num, by rw [HI2.out, HX.out], (fun h => by cases h), AX.out⟩
                                case measure => simp [intOf]; omega
                          · have ty1 : (y1 == (v : Int)) = false := by simpa using ey1
                            cases wi
                            · have HX : Hid (_ = _) := H00.out (by rw [ty1]; rfl) rfl
                              clear H00 H10 H01 H11
                              go_wp2_with fail
                              go_roundw
                              case rel => exact ⟨q + 1, by omega, by go_num, by rw [HI2.out, HX.out], (fun h => by cases h), AX.out⟩
                              case measure => simp [intOf]; omega
                            · by_cases ey2 : y2 = (v : Int)
                              · have ty2 : (y2 == (v : Int)) = true := by simpa using ey2
                                have HX : Hid (_ = _) := H01.out (by rw [ty1]; rfl) (by rw [ty2]; rfl)
                                clear H00 H10 H01 H11 ey2
                                go_wp2_with fail
                                go_roundw
                                case rel => exact ⟨q + 1, by omega, by go_num, by rw [HI2.out, HX.out], (fun h => by cases h), AX.out⟩
                                case measure => simp [intOf]; omega
                              · have ty2 : (y2 == (v : Int)) = false := by simpa using ey2
                                have HX : Hid (_ = _) := H00.out (by rw [ty1]; rfl) (by rw [ty2]; rfl)
                                clear H00 H10 H01 H11
                                go_wp2_with fail
                                go_roundw
                                case rel => exact ⟨q + 1, by omega, by go_num, by rw [HI2.out, HX.out], (fun h => by cases h), AX.out⟩
                                case measure => simp [intOf]; omega
                      · have tE : decide ((q : Int) < (E.length : Int)) = false := by simp; omega
                        have tE' : ¬ (q : Int) < (E.length : Int) := by omega
                        have eq1 : E.take q = E := List.take_of_length_le (by omega)
                        have HNX : Hid (((wantN j r E v + inN wo wi (v : Int) (E.take q) : Nat) : Int) = ((wantN j r E (v + 1) : Nat) : Int)) := by show _ = _; rw [HW2.out, HS1.out _ (by rw [HSD.out]), eq1]
                        clear eq1 hil hil2 HS0 HS1 HW2 HSD E5
                        generalize ((wantN j r E v + inN wo wi (v : Int) (E.take q) : Nat) : Int) = D at *
                        go_wp2_with fail
                        go_roundw
                        case rel => exact ⟨v + 1, by omega, by go_num, by rw [HNX.out], AX.out⟩
                        case measure => simp [intOf]; omega
                · have HNX : Hid (wantN j r E (v + 1) = wantN j r E v) := by
                    have h := of_decide_eq_true HSK.out.symm
                    show _ = _
                    rw [HW2.out, HS0.out _ (by rw [HN1.out h.1 h.2])]; rfl
                  clear HY1 HN1 HWC UR hul HC1 HS0 HS1 HW2 HSK
                  go_wp2_with fail
                  go_roundw
                  case rel => exact ⟨v + 1, by omega, by go_num, by rw [HNX.out], AB.out⟩
                  case measure => simp [intOf]; omega
              · have evm : v = m := by omega
                subst evm
                have tvm : decide ((v : Int) < (v : Int)) = false := by simp
                obtain ⟨⟨d0, d1, d2, d3, d4, d5⟩, _⟩ := hx15.x.all6
                have em : M = wantN j r E v := HMW.out
                have HFM : Hid (0 < M → t'.fresh = false ∧ t'.done = false) := HFL.out
                rw [← em]
                clear em hbl J5 E5 BW5 hx12 hx15 MV ML HMW HFL HS0 HS1 HS2 RY RN HWK HWL
                rcases Nat.eq_zero_or_pos M with hM | hM
                · subst hM
                  clear HFM
                  go_wp2_with fail
                  go_ret
                  exact ⟨rfl, BW.out⟩
                · obtain ⟨g1, g2⟩ := HFM.out hM
                  rw [g1] at d2
                  rw [g2] at d3
                  have tM : ((M : Int) == 0) = false := by simp; omega
                  have tMM : ((M : Int) == (M : Int)) = true := by simp
                  clear g1 g2 HFM
                  go_wp2_with fail
                  go_ret
                  exact ⟨rfl, BW.out⟩

set_option maxHeartbeats 400000 in
set_option maxRecDepth 100000 in
theorem lifted (os : Os) (started : os.Started) (H : Type) (enc : TypeId × Value → H) :
    ReturnsInHanded {} Try.checked os 4 .any (Rows.roundsMailSpec.pre6 enc Try.prog Try.f4 Rows.roundsMailRow.domain false) (Rows.roundsMailSpec.post enc Try.prog Try.f4 false true false false) := by
  refine returnsInHanded_of_change_sized (C := Try.checked) own started (by kernel_rfl) Try.func4
    (ChangeSpec.witness6 (enc := enc) (C := Try.checked) false ⟨#[], #[.int .i64 0, .slice none 0 0, .int .i64 0, .int .i64 0, .int .i64 0], []⟩ 8 (by kernel_rfl) (by kernel_rfl) (by kernel_rfl) (by kernel_rfl)) ?_
  intro W base args ds gs before hval0 hW _ hsz0 _
  have hval : ∀ (j : Nat) t v, Try.f4.params[j]? = some t → args[j]? = some v → Value.okWide Try.prog W .any base t v := hval0
  have hW' := hW
  obtain ⟨p, q, hA0, hV, rfl, hfz, hnd⟩ := hW
  have hA : DataW.TrodAll enc Try.prog W 0 (fun _ => true) true Try.f4.params.toList args.toList ds p := hA0
  have hsz : (DataW.weightsEach Try.prog (Try.f4.params.toList ++ Rows.roundsMailSpec.plain.varTypes Try.prog) (ds ++ gs)).all (fun x => decide (x ≤ reachBytes)) = true := hsz0
  rw [Try.params4] at hA hval hsz
  obtain ⟨v0, vs0, d0, ds0, p0, q0, hargs, rfl, rfl, h0, r0⟩ := trodAll_cons hA
  obtain ⟨v1, vs1, d1, ds1, p1, q1, rfl, rfl, rfl, h1, r1⟩ := trodAll_cons r0
  obtain ⟨v2, vs2, d2, ds2, p2, q2, rfl, rfl, rfl, h2, r2⟩ := trodAll_cons r1
  obtain ⟨v3, vs3, d3, ds3, p3, q3, rfl, rfl, rfl, h3, r3⟩ := trodAll_cons r2
  obtain ⟨v4, vs4, d4, ds4, p4, q4, rfl, rfl, rfl, h4, r4⟩ := trodAll_cons r3
  obtain ⟨rfl, rfl, rfl⟩ := trodAll_nil r4
  obtain rfl : args = #[v0, v1, v2, v3, v4] := by cases args; simp_all
  obtain ⟨rfl, rfl⟩ := trodVars_none hV
  have k0 := h0
  have lt0 : ∀ x ∈ p0, x.block < W.heap.size := by obtain ⟨m, hm⟩ := k0; exact DataW.trod_lt m _ _ _ hm
  have k1 := h1
  have lt1 : ∀ x ∈ p1, x.block < W.heap.size := by obtain ⟨m, hm⟩ := k1; exact DataW.trod_lt m _ _ _ hm
  have hw1 : ∀ m ∈ d1.weights Try.prog 22, m ≤ reachBytes := fun m hm => by simpa using List.all_eq_true.1 hsz _ (DataW.weights_mem_each (j := 1) (t := 22) rfl rfl m hm)
  have k2 := h2
  have lt2 : ∀ x ∈ p2, x.block < W.heap.size := by obtain ⟨m, hm⟩ := k2; exact DataW.trod_lt m _ _ _ hm
  have k3 := h3
  have lt3 : ∀ x ∈ p3, x.block < W.heap.size := by obtain ⟨m, hm⟩ := k3; exact DataW.trod_lt m _ _ _ hm
  have k4 := h4
  have lt4 : ∀ x ∈ p4, x.block < W.heap.size := by obtain ⟨m, hm⟩ := k4; exact DataW.trod_lt m _ _ _ hm
  obtain ⟨n0, rfl, _, _, wf0⟩ := open_int Try.underlying3 (hval 0 3 v0 rfl rfl) h0
  have hI0 := bounds_i64 wf0
  obtain ⟨es1, hR1, hB1, hL1⟩ := open_ways (okWide_slice Try.underlying22 (hval 1 22 v1 rfl rfl)) h1 hw1
  obtain ⟨n2, rfl, _, _, wf2⟩ := open_int Try.underlying3 (hval 2 3 v2 rfl rfl) h2
  have hI2 := bounds_i64 wf2
  obtain ⟨n3, rfl, _, _, wf3⟩ := open_int Try.underlying3 (hval 3 3 v3 rfl rfl) h3
  have hI3 := bounds_i64 wf3
  obtain ⟨n4, rfl, _, _, wf4⟩ := open_int Try.underlying3 (hval 4 3 v4 rfl rfl) h4
  have hI4 := bounds_i64 wf4
  clear hA0 hval0
  refine (walk n0 v1 es1 n2 n3 n4 W hI0 hR1 hB1 hL1 hI2 hI3 hI4).mono fun e W' ⟨he, bel⟩ => ?_
  subst he
  exact ⟨_, rfl, _, _, _, [], _, [], hW', trodAll_mk1 (shut_bool Try.underlying4 _), (trodAll_cons_mk (Below.trod laidOut (by kernel_rfl) (of_decide_eq_true (by kernel_rfl)) k0 bel lt0) (trodAll_cons_mk (Below.trod laidOut (by kernel_rfl) (of_decide_eq_true (by kernel_rfl)) k1 bel lt1) (trodAll_cons_mk (Below.trod laidOut (by kernel_rfl) (of_decide_eq_true (by kernel_rfl)) k2 bel lt2) (trodAll_cons_mk (Below.trod laidOut (by kernel_rfl) (of_decide_eq_true (by kernel_rfl)) k3 bel lt3) (trodAll_cons_mk (Below.trod laidOut (by kernel_rfl) (of_decide_eq_true (by kernel_rfl)) k4 bel lt4) trodAll_mk0))))), rfl, bel.frame _, fun h => by cases h⟩

theorem over : Rows.roundsMailRow.holds Try.pinned (OpenSpec.ofChange Rows.roundsMailSpec) :=
  OpenClaim.holds_of_wide 4 Try.f4 rfl rfl rfl rfl rfl rfl rfl ⟨rfl, rfl, rfl, rfl, rfl⟩ rfl rfl rfl rfl rfl (by kernel_rfl) Try.func4 (by kernel_rfl)
    (of_decide_eq_true (by kernel_rfl)) (by unfold Func.isWrapper; first | (rw [if_pos (by decide +kernel)]; kernel_rfl) | (rw [if_neg (by decide +kernel)]; exact ⟨rfl, rfl⟩))
    (fun os started H enc _ => lifted os started H enc)

/-- The statement. -/
theorem proved : Rows.RoundsMailSaid := over
#print axioms proved
end Go.Proofs.Ytbmkgnlfccigpab.roundsMail
