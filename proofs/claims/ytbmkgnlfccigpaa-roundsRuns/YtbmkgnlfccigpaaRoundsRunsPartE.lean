/-
  Contract of the document's own RanOut.
  Contract of the law's own sameInts, of lists that read alike.
  Contracts of the law's own sameValues and sameState, of what reads alike.
-/
import Derived.Test.YtbmkgnlfccigpaaRefFollow
import Derived.Test.YtbmkgnlfccigpaaRoundsRunsPartD
import Derived.Deep.LoopGhost
import Derived.Test.YtbmkgnlfccigpaaRowCore
import Derived.Deep.QuietTactic
import Derived.BigQuiet
import Derived.Test.YtbmkgnlfccigpaaMayMath
import Derived.Test.YtbmkgnlfccigpaaStaMem
import Derived.Test.YtbmkgnlfccigpaaRegionCall
import Derived.Shelf.Abstract
import Derived.Deep.CutRange

namespace Go.Proofs.Ytbmkgnlfccigpaa
set_option maxRecDepth 100000
open Go.ChangeShapes Go.WideShapes Go.ChangeAt Go.RowKit

set_option maxHeartbeats 4000000 in
set_option maxRecDepth 100000 in
theorem ranOut_any (v : Value) (es : List Ed) (n k s : Int) (w : World) (h : EdR w v es) :
    Calls Try.prog 14 #[.agg #[.int .i64 n, v, .int .i64 k, .int .i64 s]] w (StaP w (ranE n es k s)) := by
  have HR : Hid (EdR w v es) := h
  obtain ⟨a, cap, rfl, _, _, _, _⟩ := h
  have CB : Hid (∀ X, EdR X (.slice a es.length cap) es → Calls Try.prog 36 #[.agg #[.int .i64 n, .slice a es.length cap, .int .i64 k, .int .i64 s]] X (StaP X (begE n es k s))) := fun X hX => begun_any _ es n k s X hX
  have CA : Hid (∀ X (T : StS) vv vm, jobE n es k s = 0 → mayR n.toNat k T = true → EdR X (.slice a es.length cap) es → MlR X vv T.vals → LiR X vm T.mail → Calls Try.prog 11 #[.agg #[.int .i64 n, .slice a es.length cap, .int .i64 k, .int .i64 s], .agg #[.int .i64 T.step, .int .i64 T.phase, .bool T.fresh, .bool T.done, vv, vm]] X (StaP X (nextE n.toNat es k s T))) := fun X T vv vm hj hm h1 h2 h3 => by
    have := followed_any _ es n k s T vv vm X h1 h2 h3 (fun l hl => by have h7 := manyL_mem hl; have h8 := (mayR_size hm).2.2; omega)
    unfold folE at this
    rw [if_neg (by simp [hj])] at this
    exact this
  have HST : Hid (jobE n es k s = 0 → RanI n.toNat es k s (ranE n es k s) 100001 (0, beginS n.toNat) ∧ begE n es k s = (0, beginS n.toNat)) := fun hj => ⟨RanI.start (by have := fault_ok (jobE_zero hj).1; omega) hj, by unfold begE; rw [if_pos hj]⟩
  have HNO : Hid (jobE n es k s ≠ 0 → ranE n es k s = begE n es k s ∧ begE n es k s = (jobE n es k s, st0)) := fun hj => ⟨by unfold begE ranE; rw [if_neg hj, if_neg hj], by unfold begE; rw [if_neg hj]⟩
  have HGO : Hid (jobE n es k s = 0 → ∀ (R r : Int × StS) (f : Nat), RanI n.toNat es k s R (f + 1) r → r.1 = 0 → r.2.done = false → RanI n.toNat es k s R f (nextE n.toNat es k s r.2)) := fun hj R r f h1 h2 h3 => by
    have h5 := fault_ok (jobE_zero hj).1
    refine RanI.go (by omega) (fun e he => ?_) h5.2.2.1 h1 h2 h3
    have := in_of_out (h5.2.2.2 e he)
    omega
  generalize ranE n es k s = R at *
  obtain ⟨W0, hW0⟩ : ∃ W0, W0 = (w.alloc (.cells #[.int .i64 n, .slice a es.length cap, .int .i64 k, .int .i64 s] 26)).alloc (.cells #[.int .i64 0, .int .i64 0, .bool false, .bool false, .slice none 0 0, .slice none 0 0] 30) := ⟨_, rfl⟩
  obtain ⟨Q0, T0, B0, s1, s2⟩ := boxes2 w #[.int .i64 n, .slice a es.length cap, .int .i64 k, .int .i64 s] #[.int .i64 0, .int .i64 0, .bool false, .bool false, .slice none 0 0, .slice none 0 0] 26 30 W0 hW0
  have BH : Hid (Below w.heap.size w W0) := B0
  have HK : Hid (∀ X, Below W0.heap.size W0 X → BX 26 X w.heap.size #[.int .i64 n, .slice a es.length cap, .int .i64 k, .int .i64 s] ∧ BX 30 X (w.heap.size + 1) #[.int .i64 0, .int .i64 0, .bool false, .bool false, .slice none 0 0, .slice none 0 0] ∧ Below w.heap.size w X) := fun X hX => ⟨Q0.below hX (by omega), T0.below hX (by omega), BH.out.trans (hX.mono (by omega))⟩
  have R0 : Hid (∀ X, Below W0.heap.size W0 X → EdR X (.slice a es.length cap) es) := fun X hX => HR.out.below (HK.out _ hX).2.2 (Nat.le_refl _)
  have A0 : Hid (Below W0.heap.size W0 W0) := Below.refl _ _
  obtain ⟨q0, q1, q2, q3⟩ := Q0.all4
  have HS1 : Hid (RanI n.toNat es k s R 100001 (begE n es k s)) := by
    by_cases hj : jobE n es k s = 0
    · obtain ⟨h1, h2⟩ := HST.out hj
      show RanI _ _ _ _ _ _ _
      rw [h2]; exact h1
    · obtain ⟨h1, h2⟩ := HNO.out hj
      exact ⟨by rw [h1]; exact run_end _ (fun g => by rw [h2] at g; exact hj g.1), fun h3 => by rw [h2] at h3; exact absurd h3 hj⟩
  have HJ0 : Hid ((begE n es k s).1 = 0 → jobE n es k s = 0) := fun h => by
    by_cases hj : jobE n es k s = 0
    · exact hj
    · rw [(HNO.out hj).2] at h; exact h
  clear Q0 T0 B0 HST HNO
  obtain ⟨RB, hRB⟩ : ∃ RB, begE n es k s = RB := ⟨_, rfl⟩
  rw [hRB] at CB HS1 HJ0
  clear hRB
  go_enter Try.func14, Try.ntmps14
  go_upto_region 1 with fail
  rw [← hW0]
  clear hW0
  go_wp2_with fail
  refine (CB.out _ (R0.out _ A0.out)).mono ?_
  rintro e w1 ⟨v1, v2, rfl, hv1, hv2, hb1⟩
  obtain ⟨a1, n1, k1, rfl⟩ : ∃ a n c, v1 = .slice a n c := by
    rcases own_shapeK hv1 with ⟨e, _⟩ | ⟨g', c', e, _⟩
    · exact ⟨_, _, _, e⟩
    · exact ⟨_, _, _, e⟩
  obtain ⟨a2, k2, rfl⟩ := hv2.shape
  generalize hn2 : RB.2.mail.length = n2 at *
  have W1 : Hid (Below W0.heap.size W0 (w1.alloc (.cells #[.int .i64 RB.2.step, .int .i64 RB.2.phase, .bool RB.2.fresh, .bool RB.2.done, .slice a1 n1 k1, .slice a2 n2 k2] 30)) ∧ BX 30 (w1.alloc (.cells #[.int .i64 RB.2.step, .int .i64 RB.2.phase, .bool RB.2.fresh, .bool RB.2.done, .slice a1 n1 k1, .slice a2 n2 k2] 30)) w1.heap.size #[.int .i64 RB.2.step, .int .i64 RB.2.phase, .bool RB.2.fresh, .bool RB.2.done, .slice a1 n1 k1, .slice a2 n2 k2] ∧ (w1.alloc (.cells #[.int .i64 RB.2.step, .int .i64 RB.2.phase, .bool RB.2.fresh, .bool RB.2.done, .slice a1 n1 k1, .slice a2 n2 k2] 30)).ownsRow W0.heap.size 59 2 (.slice a1 n1 k1) RB.2.vals.length (RB.2.vals.flatMap encM) ∧ OwnLi (w1.alloc (.cells #[.int .i64 RB.2.step, .int .i64 RB.2.phase, .bool RB.2.fresh, .bool RB.2.done, .slice a1 n1 k1, .slice a2 n2 k2] 30)) W0.heap.size (.slice a2 n2 k2) RB.2.mail ∧ W0.heap.size ≤ w1.heap.size) := ⟨hb1.alloc hb1.size _, BX.new _ _ _, hv1.alloc _, hv2.below (below_alloc _ _) (Nat.le_refl _), hb1.size⟩
  clear q0 q1 q2 q3 hv1 hv2 hb1 CB hn2
  go_upto_region 2 with fail
  generalize w1.alloc (.cells #[.int .i64 RB.2.step, .int .i64 RB.2.phase, .bool RB.2.fresh, .bool RB.2.done, .slice a1 n1 k1, .slice a2 n2 k2] 30) = w2 at *
  generalize w1.heap.size = b4 at *
  obtain ⟨A2', X2', V2', M2', hb4⟩ := W1.out
  have W2 : Hid (Below W0.heap.size W0 w2 ∧ BX 30 w2 b4 #[.int .i64 RB.2.step, .int .i64 RB.2.phase, .bool RB.2.fresh, .bool RB.2.done, .slice a1 n1 k1, .slice a2 n2 k2] ∧ w2.ownsRow W0.heap.size 59 2 (.slice a1 n1 k1) RB.2.vals.length (RB.2.vals.flatMap encM) ∧ OwnLi w2 W0.heap.size (.slice a2 n2 k2) RB.2.mail) := ⟨A2', X2', V2', M2'⟩
  clear A2' X2' V2' M2' W1
  go_wp2_with fail
  go_loopg [5] 100001 (fun gk t wr => ∃ (r : Int × StS) (vv vm : Value), t = .int .i64 r.1 ∧ (∃ a n c, vv = .slice a n c) ∧ (∃ a n c, vm = .slice a n c) ∧ gk ≤ 100001 ∧ RanI n.toNat es k s R gk r ∧ (r.1 = 0 → jobE n es k s = 0) ∧ BX 30 wr b4 #[.int .i64 r.2.step, .int .i64 r.2.phase, .bool r.2.fresh, .bool r.2.done, vv, vm] ∧ wr.ownsRow W0.heap.size 59 2 vv r.2.vals.length (r.2.vals.flatMap encM) ∧ OwnLi wr W0.heap.size vm r.2.mail ∧ Below W0.heap.size W0 wr)
  case atStart =>
    obtain ⟨A2, X2, V2, M2⟩ := W2.out
    refine ⟨RB, _, _, rfl, ⟨_, _, _, rfl⟩, ⟨_, _, _, rfl⟩, Nat.le_refl _, ?_, HJ0.out, X2, V2, M2, A2⟩
    exact HS1.out
  case round =>
    obtain ⟨r, vv, vm, rfl, ⟨x1, x2, x3, rfl⟩, ⟨y1, y2, y3, rfl⟩, hgk, hri, hj0, hx, hov, hom, hbel⟩ := hrel
    have RI : Hid (RanI n.toNat es k s R gk r) := hri
    have J0 : Hid (r.1 = 0 → jobE n es k s = 0) := hj0
    have AB : Hid (Below W0.heap.size W0 wr) := hbel
    have XB : Hid (BX 30 wr b4 #[.int .i64 r.2.step, .int .i64 r.2.phase, .bool r.2.fresh, .bool r.2.done, .slice x1 x2 x3, .slice y1 y2 y3]) := hx
    have OV : Hid (wr.ownsRow W0.heap.size 59 2 (.slice x1 x2 x3) r.2.vals.length (r.2.vals.flatMap encM)) := hov
    have OM : Hid (OwnLi wr W0.heap.size (.slice y1 y2 y3) r.2.mail) := hom
    obtain ⟨Q1, Z1, hbw⟩ := HK.out _ hbel
    obtain ⟨q0, q1, q2, q3⟩ := Q1.all4
    obtain ⟨⟨c0, c1, c2, c3, c4, c5⟩, f0, f1, f2, f3, f4, f5⟩ := hx.all6
    obtain ⟨⟨d0, d1, d2, d3, d4, d5⟩, e0, e1, e2, e3, e4, e5⟩ := Z1.all6
    have BW : Hid (Below w.heap.size w wr) := hbw
    have ZZ : Hid (BX 30 wr (w.heap.size + 1) #[.int .i64 0, .int .i64 0, .bool false, .bool false, .slice none 0 0, .slice none 0 0]) := Z1
    have hsr := hbel.size
    clear hri hj0 hx hov hom hbel Q1 Z1 hbw
    by_cases hgo : r.1 = 0 ∧ r.2.done = false
    · have hj := J0.out hgo.1
      obtain ⟨f, rfl⟩ := RI.out.pos hgo.1
      have RI2 : Hid (RanI n.toNat es k s R f (nextE n.toNat es k s r.2)) := HGO.out hj R r f RI.out hgo.1 hgo.2
      have HMY := (RI.out.2 hgo.1).1
      have CA1 : Hid (∀ X, EdR X (.slice a es.length cap) es → MlR X (.slice x1 x2 x3) r.2.vals → LiR X (.slice y1 y2 y3) r.2.mail → _) := fun X h1 h2 h3 => CA.out X r.2 _ _ hj HMY h1 h2 h3
      have MV : Hid (MlR wr (.slice x1 x2 x3) r.2.vals) := RowK.own encM_len OV.out
      have MM : Hid (LiR wr (.slice y1 y2 y3) r.2.mail) := OM.out.reads
      have HJX : Hid (jobE n es k s = 0) := hj
      generalize nextE n.toNat es k s r.2 = N at *
      have t0 : (r.1 == 0) = true := by simpa using hgo.1
      rw [hgo.2] at c3 CA1
      clear hj HMY hgo RI OV OM CA HGO
      go_wp2_with fail
      refine (CA1.out _ (R0.out _ AB.out) MV.out MM.out).mono ?_
      rintro e w3 ⟨v1, v2, rfl, hv1, hv2, hb3⟩
      obtain ⟨a5, n5, k5, rfl⟩ : ∃ a n c, v1 = .slice a n c := by
        rcases own_shapeK hv1 with ⟨e, _⟩ | ⟨g', c', e, _⟩
        · exact ⟨_, _, _, e⟩
        · exact ⟨_, _, _, e⟩
      obtain ⟨a6, k6, rfl⟩ := hv2.shape
      generalize hn6 : N.2.mail.length = n6 at *
      have A3 : Below W0.heap.size W0 w3 := AB.out.trans (hb3.mono hsr)
      have X3 := XB.out.below hb3 XB.out.lt
      have XN : Hid (BX 30 (put6 w3 b4 (.int .i64 N.2.step) (.int .i64 N.2.phase) (.bool N.2.fresh) (.bool N.2.done) (.slice a5 n5 k5) (.slice a6 n6 k6)) b4 #[.int .i64 N.2.step, .int .i64 N.2.phase, .bool N.2.fresh, .bool N.2.done, .slice a5 n5 k5, .slice a6 n6 k6]) := X3.put6
      have VN : Hid ((put6 w3 b4 (.int .i64 N.2.step) (.int .i64 N.2.phase) (.bool N.2.fresh) (.bool N.2.done) (.slice a5 n5 k5) (.slice a6 n6 k6)).ownsRow W0.heap.size 59 2 (.slice a5 n5 k5) N.2.vals.length (N.2.vals.flatMap encM)) := own_lower (own_off hv1 X3 (by decide) (kept_put6 w3 b4 _ _ _ _ _ _)) hsr
      have MN : Hid (OwnLi (put6 w3 b4 (.int .i64 N.2.step) (.int .i64 N.2.phase) (.bool N.2.fresh) (.bool N.2.done) (.slice a5 n5 k5) (.slice a6 n6 k6)) W0.heap.size (.slice a6 n6 k6) N.2.mail) := (hv2.off X3 (by decide) (by decide) (kept_put6 w3 b4 _ _ _ _ _ _)).lower hsr
      have AN : Hid (Below W0.heap.size W0 (put6 w3 b4 (.int .i64 N.2.step) (.int .i64 N.2.phase) (.bool N.2.fresh) (.bool N.2.done) (.slice a5 n5 k5) (.slice a6 n6 k6))) := below_put6 A3 hb4 X3.lt _ _ _ _ _ _
      clear q0 q1 q2 q3 c0 c1 c2 c3 c4 c5 f0 f1 f2 f3 f4 f5 d0 d1 d2 d3 d4 d5 e0 e1 e2 e3 e4 e5 hn6 hv1 hv2
      obtain ⟨⟨c0, c1, c2, c3, c4, c5⟩, f0, f1, f2, f3, f4, f5⟩ := X3.all6
      clear X3 A3 hb3
      unfold put6 at XN VN MN AN
      go_wp2_with fail
      go_roundg f
      case measure => omega
      case rel => exact ⟨N, _, _, rfl, ⟨_, _, _, rfl⟩, ⟨_, _, _, rfl⟩, by omega, RI2.out, fun _ => HJX.out, XN.out, VN.out, MN.out, AN.out⟩
    · have HRE : Hid (R = r) := RI.out.out hgo
      have z2 := ZZ.out
      have RX : Hid (BX 30 (put6 wr (w.heap.size + 1) (.int .i64 r.2.step) (.int .i64 r.2.phase) (.bool r.2.fresh) (.bool r.2.done) (.slice x1 x2 x3) (.slice y1 y2 y3)) (w.heap.size + 1) #[.int .i64 r.2.step, .int .i64 r.2.phase, .bool r.2.fresh, .bool r.2.done, .slice x1 x2 x3, .slice y1 y2 y3]) := z2.put6
      have HP : Hid (StaP w R (.returned (.tuple #[.agg #[.int .i64 r.2.step, .int .i64 r.2.phase, .bool r.2.fresh, .bool r.2.done, .slice x1 x2 x3, .slice y1 y2 y3], .int .i64 r.1])) (put6 wr (w.heap.size + 1) (.int .i64 r.2.step) (.int .i64 r.2.phase) (.bool r.2.fresh) (.bool r.2.done) (.slice x1 x2 x3) (.slice y1 y2 y3))) := by
        show StaP _ _ _ _
        rw [HRE.out]
        exact ⟨_, _, rfl, own_lower (own_off OV.out z2 (by decide) (kept_put6 wr (w.heap.size + 1) _ _ _ _ _ _)) (by omega), (OM.out.off z2 (by decide) (by decide) (kept_put6 wr (w.heap.size + 1) _ _ _ _ _ _)).lower (by omega), below_put6 BW.out (by omega) z2.lt _ _ _ _ _ _⟩
      clear z2
      by_cases h1 : r.1 = 0
      · have t0 : (r.1 == 0) = true := by simpa using h1
        have hd : r.2.done = true := by
          cases hdn : r.2.done
          · exact absurd ⟨h1, hdn⟩ hgo
          · rfl
        rw [hd] at c3 RX HP
        clear hgo h1 hd CA HGO
        go_wp2_with fail
        obtain ⟨⟨r0, r1, r2, r3, r4, r5⟩, _⟩ := RX.out.all6
        unfold put6 at r0 r1 r2 r3 r4 r5
        exact bodyPost_ret (v := .tuple #[.agg #[.int .i64 r.2.step, .int .i64 r.2.phase, .bool r.2.fresh, .bool true, .slice x1 x2 x3, .slice y1 y2 y3], .int .i64 r.1]) (by simp [results, Try.results14, go_sem, r0, r1, r2, r3, r4, r5]) rfl HP.out
      · have t0 : (r.1 == 0) = false := by simpa using h1
        clear hgo h1 CA HGO
        go_wp2_with fail
        obtain ⟨⟨r0, r1, r2, r3, r4, r5⟩, _⟩ := RX.out.all6
        unfold put6 at r0 r1 r2 r3 r4 r5
        exact bodyPost_ret (v := .tuple #[.agg #[.int .i64 r.2.step, .int .i64 r.2.phase, .bool r.2.fresh, .bool r.2.done, .slice x1 x2 x3, .slice y1 y2 y3], .int .i64 r.1]) (by simp [results, Try.results14, go_sem, r0, r1, r2, r3, r4, r5]) rfl HP.out
end Go.Proofs.Ytbmkgnlfccigpaa

namespace Go.Proofs.Ytbmkgnlfccigpaa
set_option maxRecDepth 100000
open Go.ChangeShapes Go.WideShapes Go.ChangeAt Go.RowKit

set_option maxHeartbeats 1000000 in
set_option maxRecDepth 100000 in
theorem sameInts_yes (va vb : Value) (es : List Int) (w : World) (ha : InR w va es) (hb : InR w vb es) :
    Calls Try.prog 35 #[va, vb] w fun e w' => e = .returned (.bool true) ∧ Below w.heap.size w w' := by
  have HA : Hid (InR w va es) := ha
  have HB : Hid (InR w vb es) := hb
  obtain ⟨a, ca, rfl, hca, hma, _, _⟩ := ha
  obtain ⟨b, cb, rfl, hcb, hmb, _, _⟩ := hb
  unfold maxLen at hma hmb
  have hll : ((es.length : Int) != (es.length : Int)) = false := by simp
  go_enter Try.func35, Try.ntmps35
  go_wp2_with fail
  go_loopw [5] (fun i wr => ∃ k : Nat, k ≤ es.length ∧ i = .int .i64 k ∧ Below w.heap.size w wr) (fun i _ => es.length - (intOf i).toNat)
  case atStart => exact ⟨0, by omega, rfl, Below.refl _ _⟩
  case round =>
    obtain ⟨k, hk, rfl, hbel⟩ := hrel
    have HBL : Hid (Below w.heap.size w wr) := hbel
    clear hbel
    by_cases hlt : k < es.length
    · obtain ⟨xa, oa, cap', e1, _, _, la, hva⟩ := InR.at (HA.out.below HBL.out (Nat.le_refl _)) (by omega)
      injection e1 with e1 _ e3
      subst e1 e3
      obtain ⟨xb, ob, cap', e1, _, _, lb, hvb⟩ := InR.at (HB.out.below HBL.out (Nat.le_refl _)) (by omega)
      injection e1 with e1 _ e3
      subst e1 e3
      obtain ⟨x, hx⟩ := getX hlt
      have p0 : (0 : Int) ≤ (k : Int) := by omega
      have p1 : (k : Int) < (es.length : Int) := by omega
      have c1 := hva k x hx
      have d1 := hvb k x hx
      have hxx : (x != x) = false := by simp
      clear hva hvb hx
      go_wp2_with fail
      go_quiet (fail)
      go_wp2_with fail
      go_roundw
      case rel => exact ⟨k + 1, by omega, by go_num, below_drewN HBL.out _⟩
      case measure => simp [intOf]; omega
    · go_wp2_with fail
      go_ret
      exact ⟨rfl, HBL.out⟩
end Go.Proofs.Ytbmkgnlfccigpaa

namespace Go.Proofs.Ytbmkgnlfccigpaa
set_option maxRecDepth 100000
open Go.ChangeShapes Go.WideShapes Go.ChangeAt Go.RowKit

set_option maxHeartbeats 1000000 in
set_option maxRecDepth 100000 in
theorem sameVals_yes (va vb : Value) (vs : List Ml) (w : World) (ha : MlR w va vs) (hb : MlR w vb vs) :
    Calls Try.prog 34 #[va, vb] w fun e w' => e = .returned (.bool true) ∧ Below w.heap.size w w' := by
  have HA : Hid (MlR w va vs) := ha
  have HB : Hid (MlR w vb vs) := hb
  obtain ⟨a, ca, rfl, hca, hma, _, _⟩ := ha
  obtain ⟨b, cb, rfl, hcb, hmb, _, _⟩ := hb
  unfold maxLen at hma hmb
  have hll : ((vs.length : Int) != (vs.length : Int)) = false := by simp
  go_enter Try.func34, Try.ntmps34
  go_wp2_with fail
  go_loopw [5] (fun i wr => ∃ k : Nat, k ≤ vs.length ∧ i = .int .i64 k ∧ Below w.heap.size w wr) (fun i _ => vs.length - (intOf i).toNat)
  case atStart => exact ⟨0, by omega, rfl, Below.refl _ _⟩
  case round =>
    obtain ⟨k, hk, rfl, hbel⟩ := hrel
    have HBL : Hid (Below w.heap.size w wr) := hbel
    clear hbel
    by_cases hlt : k < vs.length
    · obtain ⟨xa, oa, cap', e1, la, hva⟩ := MlR.read (HA.out.below HBL.out (Nat.le_refl _)) (by omega)
      injection e1 with e1 _ e3
      subst e1 e3
      obtain ⟨xb, ob, cap', e1, lb, hvb⟩ := MlR.read (HB.out.below HBL.out (Nat.le_refl _)) (by omega)
      injection e1 with e1 _ e3
      subst e1 e3
      obtain ⟨x, hx⟩ := getX hlt
      have p0 : (0 : Int) ≤ (k : Int) := by omega
      have p1 : (k : Int) < (vs.length : Int) := by omega
      obtain ⟨c1, c2⟩ := hva k x hx
      obtain ⟨d1, d2⟩ := hvb k x hx
      obtain ⟨x1, x2⟩ := x
      simp only at c1 c2 d1 d2
      clear hva hvb hx
      go_wp2_with fail
      go_quiet (fail)
      go_wp2_with fail
      go_roundw
      case rel => exact ⟨k + 1, by omega, by go_num, below_drewN HBL.out _⟩
      case measure => simp [intOf]; omega
    · go_wp2_with fail
      go_ret
      exact ⟨rfl, HBL.out⟩

set_option maxHeartbeats 2000000 in
set_option maxRecDepth 100000 in
theorem sameState_yes (T : StS) (va vb vma vmb : Value) (w : World) (ha : MlR w va T.vals) (hb : MlR w vb T.vals) (hma : LiR w vma T.mail) (hmb : LiR w vmb T.mail) :
    Calls Try.prog 12 #[.agg #[.int .i64 T.step, .int .i64 T.phase, .bool T.fresh, .bool T.done, va, vma], .agg #[.int .i64 T.step, .int .i64 T.phase, .bool T.fresh, .bool T.done, vb, vmb]] w fun e w' => e = .returned (.bool true) ∧ Below w.heap.size w w' := by
  have HA : Hid (MlR w va T.vals) := ha
  have HB : Hid (MlR w vb T.vals) := hb
  have HMA : Hid (LiR w vma T.mail) := hma
  have HMB : Hid (LiR w vmb T.mail) := hmb
  obtain ⟨a, ca, rfl, hca, hcm, _, _⟩ := ha
  obtain ⟨b, cb, rfl, hcb, hdm, _, _⟩ := hb
  obtain ⟨ma, mca, rfl, hmca, hmcm, _⟩ := hma
  obtain ⟨mb, mcb, rfl, hmcb, hmdm, _⟩ := hmb
  unfold maxLen at hcm hdm hmcm hmdm
  obtain ⟨W0, hW0⟩ : ∃ W0, W0 = (w.alloc (.cells #[.int .i64 T.step, .int .i64 T.phase, .bool T.fresh, .bool T.done, .slice a T.vals.length ca, .slice ma T.mail.length mca] 30)).alloc (.cells #[.int .i64 T.step, .int .i64 T.phase, .bool T.fresh, .bool T.done, .slice b T.vals.length cb, .slice mb T.mail.length mcb] 30) := ⟨_, rfl⟩
  obtain ⟨Q0, T0, B0, s1, s2⟩ := boxes2 w #[.int .i64 T.step, .int .i64 T.phase, .bool T.fresh, .bool T.done, .slice a T.vals.length ca, .slice ma T.mail.length mca] #[.int .i64 T.step, .int .i64 T.phase, .bool T.fresh, .bool T.done, .slice b T.vals.length cb, .slice mb T.mail.length mcb] 30 30 W0 hW0
  have BH : Hid (Below w.heap.size w W0) := B0
  have HK : Hid (∀ X, Below W0.heap.size W0 X → BX 30 X w.heap.size #[.int .i64 T.step, .int .i64 T.phase, .bool T.fresh, .bool T.done, .slice a T.vals.length ca, .slice ma T.mail.length mca] ∧ BX 30 X (w.heap.size + 1) #[.int .i64 T.step, .int .i64 T.phase, .bool T.fresh, .bool T.done, .slice b T.vals.length cb, .slice mb T.mail.length mcb] ∧ Below w.heap.size w X) := fun X hX => ⟨Q0.below hX (by omega), T0.below hX (by omega), BH.out.trans (hX.mono (by omega))⟩
  have HVX : Hid (∀ X, Below W0.heap.size W0 X → LiR X (.slice ma T.mail.length mca) T.mail ∧ LiR X (.slice mb T.mail.length mcb) T.mail) := fun X hX => ⟨HMA.out.below (HK.out _ hX).2.2 (Nat.le_refl _), HMB.out.below (HK.out _ hX).2.2 (Nat.le_refl _)⟩
  have HVY : Hid (∀ X, Below W0.heap.size W0 X → MlR X (.slice a T.vals.length ca) T.vals ∧ MlR X (.slice b T.vals.length cb) T.vals) := fun X hX => ⟨HA.out.below (HK.out _ hX).2.2 (Nat.le_refl _), HB.out.below (HK.out _ hX).2.2 (Nat.le_refl _)⟩
  have A0 : Hid (Below W0.heap.size W0 W0) := Below.refl _ _
  obtain ⟨⟨q0, q1, q2, q3, q4, q5⟩, _⟩ := Q0.all6
  obtain ⟨⟨p0, p1, p2, p3, p4, p5⟩, _⟩ := T0.all6
  have t0 : (T.step != T.step) = false := by simp
  have t1 : (T.phase != T.phase) = false := by simp
  have t2 : (T.fresh != T.fresh) = false := by simp
  have t3 : (T.done != T.done) = false := by simp
  have t4 : ((T.vals.length : Int) != (T.vals.length : Int)) = false := by simp
  have t5 : ((T.mail.length : Int) != (T.mail.length : Int)) = false := by simp
  clear Q0 T0 B0
  have CV : Hid (∀ X, Below W0.heap.size W0 X → Calls Try.prog 34 #[.slice a T.vals.length ca, .slice b T.vals.length cb] X fun e w' => e = .returned (.bool true) ∧ Below X.heap.size X w') := fun X hX => sameVals_yes _ _ T.vals X (HVY.out X hX).1 (HVY.out X hX).2
  go_enter Try.func12, Try.ntmps12
  go_upto_region 1 with fail
  rw [← hW0]
  clear hW0
  go_wp2_with fail
  refine (CV.out _ A0.out).mono ?_
  rintro e w1 ⟨rfl, hb1⟩
  have A1 : Hid (Below W0.heap.size W0 w1) := hb1
  obtain ⟨QA, QB, _⟩ := HK.out _ hb1
  clear q0 q1 q2 q3 q4 q5 p0 p1 p2 p3 p4 p5 hb1
  obtain ⟨⟨q0, q1, q2, q3, q4, q5⟩, _⟩ := QA.all6
  obtain ⟨⟨p0, p1, p2, p3, p4, p5⟩, _⟩ := QB.all6
  clear QA QB
  go_wp2_with fail
  clear q0 q1 q2 q3 q4 q5 p0 p1 p2 p3 p4 p5
  go_loopw [5] (fun i wr => ∃ k : Nat, k ≤ T.mail.length ∧ i = .int .i64 k ∧ Below W0.heap.size W0 wr) (fun i _ => T.mail.length - (intOf i).toNat)
  case atStart => exact ⟨0, by omega, rfl, A1.out⟩
  case round =>
    obtain ⟨k, hk, rfl, hbel⟩ := hrel
    have AB : Hid (Below W0.heap.size W0 wr) := hbel
    have hsr := hbel.size
    obtain ⟨QA, QB, hbw⟩ := HK.out _ hbel
    have BW : Hid (Below w.heap.size w wr) := hbw
    obtain ⟨⟨q0, q1, q2, q3, q4, q5⟩, _⟩ := QA.all6
    obtain ⟨⟨p0, p1, p2, p3, p4, p5⟩, _⟩ := QB.all6
    clear hbel QA QB hbw
    by_cases hlt : k < T.mail.length
    · obtain ⟨xa, oa, cap', e1, lta, _, _, hva⟩ := (HVX.out _ AB.out).1.at (by omega)
      injection e1 with e1 _ e3
      subst e1 e3
      obtain ⟨xb, ob, cap', e1, ltb, _, _, hvb⟩ := (HVX.out _ AB.out).2.at (by omega)
      injection e1 with e1 _ e3
      subst e1 e3
      obtain ⟨l, hl⟩ := getX hlt
      obtain ⟨u, hu, hur⟩ := hva k l hl
      obtain ⟨v, hv, hvr⟩ := hvb k l hl
      have UR : Hid (InR wr u l ∧ InR wr v l) := ⟨hur, hvr⟩
      obtain ⟨ua, uca, rfl⟩ := hur.shape
      obtain ⟨ub, ucb, rfl⟩ := hvr.shape
      have CS : Hid (∀ X, Below wr.heap.size wr X → Calls Try.prog 35 #[.slice ua l.length uca, .slice ub l.length ucb] X fun e w' => ∃ v, e = .returned v ∧ (v = .bool true ∧ Below X.heap.size X w')) := fun X hX => (sameInts_yes _ _ l X (UR.out.1.below hX (Nat.le_refl _)) (UR.out.2.below hX (Nat.le_refl _))).mono fun e w' h => ⟨_, h.1, rfl, h.2⟩
      have KEEP : Hid (∀ V, Below wr.heap.size wr V → (V.cell? ⟨w.heap.size, 5, none⟩ = some (.slice (some ⟨xa, oa, none⟩) T.mail.length mca) ∧ V.cell? ⟨w.heap.size + 1, 5, none⟩ = some (.slice (some ⟨xb, ob, none⟩) T.mail.length mcb) ∧ V.cell? ⟨xa, oa + k, none⟩ = some (.slice ua l.length uca) ∧ V.cell? ⟨xb, ob + k, none⟩ = some (.slice ub l.length ucb))) := fun V hV => by
        obtain ⟨QA, QB, _⟩ := HK.out _ (AB.out.trans (hV.mono hsr))
        exact ⟨QA.all6.1.2.2.2.2.2, QB.all6.1.2.2.2.2.2, (hV.cell (p := ⟨xa, oa + k, none⟩) lta).trans hu, (hV.cell (p := ⟨xb, ob + k, none⟩) ltb).trans hv⟩
      have HS0 : Hid (wr.drew.cell? ⟨w.heap.size, 5, none⟩ = some (.slice (some ⟨xa, oa, none⟩) T.mail.length mca) ∧ wr.drew.cell? ⟨w.heap.size + 1, 5, none⟩ = some (.slice (some ⟨xb, ob, none⟩) T.mail.length mcb) ∧ wr.drew.cell? ⟨xa, oa + k, none⟩ = some (.slice ua l.length uca) ∧ wr.drew.cell? ⟨xb, ob + k, none⟩ = some (.slice ub l.length ucb)) := KEEP.out wr.drew (Below.refl _ _).drew
      have es : ∀ args w, (callFunc 35 args).run Try.prog w = .ok (.enter 35 args) w := enters_of Try.func35 (by kernel_rfl) rfl
      have z0 : (0 : Int) ≤ (k : Int) := by omega
      have z1 : (k : Int) < (T.mail.length : Int) := by omega
      clear hva hvb hl hu hv hur hvr
      go_upto_region 6 with fail
      clear q0 q1 q2 q3 q4 q5 p0 p1 p2 p3 p4 p5
      refine wp_region_held (S := fun V => (V.cell? ⟨w.heap.size, 5, none⟩ = some (.slice (some ⟨xa, oa, none⟩) T.mail.length mca) ∧ V.cell? ⟨w.heap.size + 1, 5, none⟩ = some (.slice (some ⟨xb, ob, none⟩) T.mail.length mcb) ∧ V.cell? ⟨xa, oa + k, none⟩ = some (.slice ua l.length uca) ∧ V.cell? ⟨xb, ob + k, none⟩ = some (.slice ub l.length ucb))) (by kernel_rfl) ?_
      simp only [List.size_toArray, List.length_cons, List.length_nil, Nat.reduceAdd]
      refine takeH (i := 0) (v := .pointer (some ⟨w.heap.size, 5, none⟩)) (d := 56) rfl rfl (by kernel_rfl) (by kernel_rfl) (by kernel_rfl) (fun _ _ _ h => h) (by rfl) (fun V hV => by obtain ⟨v1, v2, v3, v4⟩ := hV; go_simp) HS0.out ?_
      simp only [Act.put, List.setIfInBounds_toArray, List.set_cons_zero, List.set_cons_succ]
      refine takeH (i := 1) (v := .slice (some ⟨xa, oa, none⟩) T.mail.length mca) (d := 57) rfl rfl (by kernel_rfl) (by kernel_rfl) (by kernel_rfl) (fun _ _ _ h => h) (by rfl) (fun V hV => by obtain ⟨v1, v2, v3, v4⟩ := hV; go_simp) HS0.out ?_
      simp only [Act.put, List.setIfInBounds_toArray, List.set_cons_zero, List.set_cons_succ]
      refine takeH (i := 2) (v := .int .i64 (k : Int)) (d := 58) rfl rfl (by kernel_rfl) (by kernel_rfl) (by kernel_rfl) (fun _ _ _ h => h) (by rfl) (fun V hV => by obtain ⟨v1, v2, v3, v4⟩ := hV; go_simp) HS0.out ?_
      simp only [Act.put, List.setIfInBounds_toArray, List.set_cons_zero, List.set_cons_succ]
      refine takeH (i := 3) (v := .pointer (some ⟨xa, oa + k, none⟩)) (d := 59) rfl rfl (by kernel_rfl) (by kernel_rfl) (by kernel_rfl) (fun _ _ _ h => h) (by rfl) (fun V hV => by obtain ⟨v1, v2, v3, v4⟩ := hV; go_simp) HS0.out ?_
      simp only [Act.put, List.setIfInBounds_toArray, List.set_cons_zero, List.set_cons_succ]
      refine takeH (i := 4) (v := .slice ua l.length uca) (d := 60) rfl rfl (by kernel_rfl) (by kernel_rfl) (by kernel_rfl) (fun _ _ _ h => h) (by rfl) (fun V hV => by obtain ⟨v1, v2, v3, v4⟩ := hV; go_simp) HS0.out ?_
      simp only [Act.put, List.setIfInBounds_toArray, List.set_cons_zero, List.set_cons_succ]
      refine takeH (i := 5) (v := .pointer (some ⟨w.heap.size + 1, 5, none⟩)) (d := 61) rfl rfl (by kernel_rfl) (by kernel_rfl) (by kernel_rfl) (fun _ _ _ h => h) (by rfl) (fun V hV => by obtain ⟨v1, v2, v3, v4⟩ := hV; go_simp) HS0.out ?_
      simp only [Act.put, List.setIfInBounds_toArray, List.set_cons_zero, List.set_cons_succ]
      refine takeH (i := 6) (v := .slice (some ⟨xb, ob, none⟩) T.mail.length mcb) (d := 62) rfl rfl (by kernel_rfl) (by kernel_rfl) (by kernel_rfl) (fun _ _ _ h => h) (by rfl) (fun V hV => by obtain ⟨v1, v2, v3, v4⟩ := hV; go_simp) HS0.out ?_
      simp only [Act.put, List.setIfInBounds_toArray, List.set_cons_zero, List.set_cons_succ]
      refine takeH (i := 7) (v := .int .i64 (k : Int)) (d := 63) rfl rfl (by kernel_rfl) (by kernel_rfl) (by kernel_rfl) (fun _ _ _ h => h) (by rfl) (fun V hV => by obtain ⟨v1, v2, v3, v4⟩ := hV; go_simp) HS0.out ?_
      simp only [Act.put, List.setIfInBounds_toArray, List.set_cons_zero, List.set_cons_succ]
      refine takeH (i := 8) (v := .pointer (some ⟨xb, ob + k, none⟩)) (d := 64) rfl rfl (by kernel_rfl) (by kernel_rfl) (by kernel_rfl) (fun _ _ _ h => h) (by rfl) (fun V hV => by obtain ⟨v1, v2, v3, v4⟩ := hV; go_simp) HS0.out ?_
      simp only [Act.put, List.setIfInBounds_toArray, List.set_cons_zero, List.set_cons_succ]
      refine takeH (i := 9) (v := .slice ub l.length ucb) (d := 65) rfl rfl (by kernel_rfl) (by kernel_rfl) (by kernel_rfl) (fun _ _ _ h => h) (by rfl) (fun V hV => by obtain ⟨v1, v2, v3, v4⟩ := hV; go_simp) HS0.out ?_
      simp only [Act.put, List.setIfInBounds_toArray, List.set_cons_zero, List.set_cons_succ]
      refine oneH (i := 10) rfl (by kernel_rfl) rfl (call_gets (d := 66) (f := 35) (xs := #[.tmp 60, .tmp 65]) (ats := #[43, 43]) rfl rfl es (vs := #[.slice ua l.length uca, .slice ub l.length ucb]) (by simp [Act.eval]) (CS.out wr.drew (Below.refl _ _).drew) ?_)
      rintro vr w4 ⟨rfl, hb4⟩
      have b4 : Below wr.heap.size wr w4 := (Below.refl _ _).drew.trans hb4
      have HS4 : Hid (w4.cell? ⟨w.heap.size, 5, none⟩ = some (.slice (some ⟨xa, oa, none⟩) T.mail.length mca) ∧ w4.cell? ⟨w.heap.size + 1, 5, none⟩ = some (.slice (some ⟨xb, ob, none⟩) T.mail.length mcb) ∧ w4.cell? ⟨xa, oa + k, none⟩ = some (.slice ua l.length uca) ∧ w4.cell? ⟨xb, ob + k, none⟩ = some (.slice ub l.length ucb)) := KEEP.out w4 b4
      refine ⟨HS4.out, ?_⟩
      simp only [Act.put, List.setIfInBounds_toArray, List.set_cons_zero, List.set_cons_succ]
      refine takeH (i := 11) (v := .bool false) (d := 67) rfl rfl (by kernel_rfl) (by kernel_rfl) (by kernel_rfl) (fun _ _ _ h => h) (by rfl) (fun V hV => by obtain ⟨v1, v2, v3, v4⟩ := hV; go_simp) HS4.out ?_
      simp only [Act.put, List.setIfInBounds_toArray, List.set_cons_zero, List.set_cons_succ]
      refine wpAnyH_done (by kernel_rfl) ?_ _
      have A4 : Hid (Below W0.heap.size W0 w4) := AB.out.trans (b4.mono hsr)
      clear HS4 HS0 KEEP hb4 b4
      go_wp2_with fail
      go_roundw
      case rel => exact ⟨k + 1, by omega, by go_num, A4.out⟩
      case measure => simp [intOf]; omega
    · go_wp2_with fail
      go_ret
      exact ⟨rfl, BW.out⟩
end Go.Proofs.Ytbmkgnlfccigpaa
